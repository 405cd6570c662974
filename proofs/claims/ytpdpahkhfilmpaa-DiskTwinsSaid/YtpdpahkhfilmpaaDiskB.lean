/-
  Package disk: Arm, Fail, New; a map of blocks; settle. Contracts of mine.
-/
import Derived.Test.YtpdpahkhfilmpaaStory
import Derived.Test.YtpdpahkhfilmpaaMaps
import Derived.Lib.Hide
namespace Go.Proofs.Ytpdpahkhfilmpaa
open Go.RowKit
open Go.ChangeMaps (setBlock)

/-- What the first entry under this number holds. -/
def look (f : Int → Blk) : List (Int × Blk × Nat) → Int → Blk
  | [], k => f k
  | p :: l, k => if k = p.1 then p.2.1 else look f l k
/-- An entry. -/
def be (p : Int × Blk × Nat) : MapEntry := ent .i64 p.1 (bv p.2.1) p.2.2
/-- Block m is a map that has under k the block f k (noughts, where it has none). -/
def Firm (w : World) (m : Nat) (f : Int → Blk) : Prop := ∃ l c, MapIs w m (l.map be) c ∧ ∀ k, look (fun _ => fil 0) l k = f k
theorem Firm.keep {w v : World} {m : Nat} {f : Int → Blk} {ms : List Nat} (h : Firm w m f) (k : Mod ms w v) (hn : m ∉ ms) : Firm v m f := by
  obtain ⟨l, c, h1, h2⟩ := h
  exact ⟨l, c, h1.keep k hn, h2⟩
theorem Firm.lt {w : World} {m : Nat} {f : Int → Blk} (h : Firm w m f) : m < w.heap.size := by
  obtain ⟨l, c, h1, h2⟩ := h
  exact lt_of_some h1
theorem Firm.new {w : World} : Firm (w.alloc (.map #[] 0)) w.heap.size (fun _ => fil 0) := ⟨[], 0, heap_alloc_new w _, fun _ => rfl⟩

theorem find_be (k : Int) : ∀ (l : List (Int × Blk × Nat)) (i : Nat), (∃ j b, Instr.findNow (.int .i64) (.int .i64 k) (l.map be) i = some (some (j + i, bv b)) ∧ j < l.length ∧ (∃ q, l[j]? = some (k, b, q)) ∧ (∀ p, look p l k = b) ∧ ∀ p x k', look p (l.modify j (fun q => (q.1, x, q.2.2))) k' = if k' = k then x else look p l k') ∨
    (Instr.findNow (.int .i64) (.int .i64 k) (l.map be) i = some none ∧ (∀ p, look p l k = p k) ∧ ∀ p x c k', look p (l ++ [(k, x, c)]) k' = if k' = k then x else look p l k')
  | [], i => .inr ⟨rfl, fun _ => rfl, fun p x c k' => rfl⟩
  | e :: l, i => by
    obtain ⟨n, b, q⟩ := e
    by_cases hk : k = n
    · subst hk
      refine .inl ⟨0, b, ?_, by simp, ⟨q, rfl⟩, fun p => by simp [look], fun p x k' => ?_⟩
      · simp [Instr.findNow, be, ent, Instr.sameNow]
      · simp only [List.modify_zero_cons, look]
        split <;> rfl
    · have hne : (k == n) = false := by simpa using hk
      have hs : Instr.findNow (.int .i64) (.int .i64 k) ((⟨n, b, q⟩ :: l : List (Int × Blk × Nat)).map be) i = Instr.findNow (.int .i64) (.int .i64 k) (l.map be) (i + 1) := by
        simp [Instr.findNow, be, ent, Instr.sameNow, hne]
      rcases find_be k l (i + 1) with ⟨j, c, h1, h2, ⟨q', h3⟩, h4, h5⟩ | ⟨h1, h2, h3⟩
      · refine .inl ⟨j + 1, c, ?_, by simpa using h2, ⟨q', by simpa using h3⟩, fun p => ?_, fun p x k' => ?_⟩
        · rw [hs, h1]; simp; omega
        · simp only [look, if_neg hk]; exact h4 p
        · rw [List.modify_succ_cons]
          simp only [look, h5]
          by_cases e1 : k' = n
          · have : ¬ k' = k := fun e2 => hk (e2.symm.trans e1)
            simp [e1, if_neg (fun e2 : n = k => hk e2.symm)]
          · simp [e1]
      · refine .inr ⟨by rw [hs, h1], fun p => ?_, fun p x c k' => ?_⟩
        · simp only [look, if_neg hk]; exact h2 p
        · rw [List.cons_append]
          simp only [look, h3]
          by_cases e1 : k' = n
          · simp [e1, if_neg (fun e2 : n = k => hk e2.symm)]
          · simp [e1]

/-- What a map of blocks has under a number. -/
theorem run_look {w : World} {m : Nat} {f : Int → Blk} (h : Firm w m f) (k : Int) : (Instr.lookup 68 (.map (some m)) (.int .i64 k) false).run Try.prog w = .ok (bv (f k)) w := by
  obtain ⟨l, c, hm, hf⟩ := h
  have hm' : w.heap[m]? = some (.map (l.map be).toArray c) := hm
  have hc : ∀ e, (Instr.checkKey e 10000 3 (.int .i64 k)).run Try.prog w = .ok () w := fun e => MapKept.run_checkKey (k := .int .i64 k) Try.underlying3 (by simp [MapKept.IsKey]) e 9999
  have hkk := hf k
  rcases find_be k l 0 with ⟨j, b, h1, _, _, h4, _⟩ | ⟨h1, h2, _⟩
  · rw [h4] at hkk
    have h1' : Instr.findNow (.int .i64) (.int .i64 k) (l.map be).toArray.toList 0 = some (some (j + 0, bv b)) := h1
    simp only [Instr.lookup, Sem.run_bind, run_underlying Try.underlying68, MapKept.run_getObj_map hm', Result.andThen, hc, MapKept.run_findKey Try.underlying3 h1', Sem.run_pure]
    rw [← hkk]
    simp
  · rw [h2] at hkk
    have h1' : Instr.findNow (.int .i64) (.int .i64 k) (l.map be).toArray.toList 0 = some none := h1
    simp only [Instr.lookup, Sem.run_bind, run_underlying Try.underlying68, MapKept.run_getObj_map hm', Result.andThen, hc, MapKept.run_findKey Try.underlying3 h1', Sem.run_pure, zero39]
    rw [← hkk]
    rfl
/-- A map of blocks is told a block. -/
theorem run_tell {w : World} {m : Nat} {f : Int → Blk} (h : Firm w m f) (k : Int) (b : Blk) : ∃ v, (Instr.mapUpdate 68 (.map (some m)) (.int .i64 k) (bv b)).run Try.prog w = .ok () v ∧ Firm v m (fun k' => if k' = k then b else f k') ∧ Mod [m] w v ∧ v.heap.size = w.heap.size := by
  obtain ⟨l, c, hm, hf⟩ := h
  have hm' : w.heap[m]? = some (.map (l.map be).toArray c) := hm
  have hc : (Instr.checkKey false 10000 3 (.int .i64 k)).run Try.prog w = .ok () w := MapKept.run_checkKey (k := .int .i64 k) Try.underlying3 (by simp [MapKept.IsKey]) false 9999
  rcases find_be k l 0 with ⟨j, b', h1, h2, ⟨q, h3⟩, _, h5⟩ | ⟨h1, _, h3⟩
  · have h1' : Instr.findNow (.int .i64) (.int .i64 k) (l.map be).toArray.toList 0 = some (some (j, bv b')) := h1
    have hkey : ((l.map be).toArray[j]?.map (·.key)).getD (.int .i64 k) = .int .i64 k := by
      simp [h3, be, ent]
    have hstay : (Instr.keyThatStays (.int .i64 k) (.int .i64 k)).run Try.prog w = .ok (.int .i64 k) w := MapKept.run_keyThatStays (d := .int .i64) (k := .int .i64 k) (by simp [MapKept.IsKey])
    have hes : ((l.map be).toArray.modify j fun e => { e with key := .int .i64 k, val := bv b }) = ((l.modify j (fun q => (q.1, b, q.2.2))).map be).toArray := by
      apply Array.ext'
      simp only [Array.toList_modify]
      apply List.ext_getElem?
      intro i
      simp only [List.getElem?_modify, List.getElem?_map]
      by_cases hij : j = i
      · subst hij
        simp [h3, be, ent]
      · simp [hij]
    refine ⟨setBlock w m (.map ((l.modify j (fun q => (q.1, b, q.2.2))).map be).toArray c), ?_, ⟨_, c, put_at hm', fun k' => ?_⟩, mod_put w m _, by simp [setBlock]⟩
    · simp only [Instr.mapUpdate, Sem.run_bind, run_underlying Try.underlying68, MapKept.run_getObj_map hm', Result.andThen, hc, MapKept.run_findKey Try.underlying3 h1', hkey, hstay, hes]
      rw [MapKept.run_setObj_map _ hm']
      rfl
    · rw [h5]; rw [hf]
  · have h1' : Instr.findNow (.int .i64) (.int .i64 k) (l.map be).toArray.toList 0 = some none := h1
    refine ⟨setBlock w m (.map ((l ++ [(k, b, c)]).map be).toArray (c + 1)), ?_, ⟨_, c + 1, put_at hm', fun k' => ?_⟩, mod_put w m _, by simp [setBlock]⟩
    · simp only [Instr.mapUpdate, Sem.run_bind, run_underlying Try.underlying68, MapKept.run_getObj_map hm', Result.andThen, hc, MapKept.run_findKey Try.underlying3 h1']
      rw [MapKept.run_setObj_map _ hm']
      simp [setBlock, be, ent]
    · rw [h3, hf]
end Go.Proofs.Ytpdpahkhfilmpaa
