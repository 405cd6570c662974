/-
  TermBack, its cases together. My own work.
-/
import Derived.Test.YtapafniekmfkaaaDoorUd
namespace Go.Proofs.YtapafniekmfkaaaDoor
open Go.RowKit Go.Shelf
theorem back_c (t : Tm) (cs : List Value) (k : Int) (A : Option Addr) (l : List UInt8) (n c : Nat) (w : World) (hn : n = l.length) (hnc : n ≤ c) (hT : TIs w (Btw 0 w.heap.size) t cs) (hr : Reads w A l) (G : Glob w) :
    Calls Tryd.prog 6 #[.agg cs.toArray, .int .i64 k, .slice A n c] w fun e w' => e = .returned (.bool true) ∧ Mod [] w w' := by
  rcases Nat.lt_or_ge 10000 n with hb | hb
  · exact back_long t cs k A l n c w hT hn hb hnc hr G
  cases HD : Tm.dec 60 l 0 with
  | error er =>
    cases HR : t.right with
    | false => exact back_err_no t cs k A l n c w hT hn hb hnc hr G er HD HR
    | true => exact back_err_yes t cs k A l n c w hT hn hb hnc hr G er HD HR
  | ok p =>
    obtain ⟨x, l', sx⟩ := p
    cases HR : t.right with
    | false => exact back_ok_no t cs k A l n c w hT hn hb hnc hr G x l' sx HD HR
    | true => exact back_ok_yes t cs k A l n c w hT hn hb hnc hr G x l' sx HD HR
end Go.Proofs.YtapafniekmfkaaaDoor
