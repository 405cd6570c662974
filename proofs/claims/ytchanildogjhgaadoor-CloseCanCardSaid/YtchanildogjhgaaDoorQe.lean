/-
  The document's Set (ref 07): a round's one place. My own work.
-/
import Derived.Test.YtchanildogjhgaaDoorQd
namespace Go.Proofs.YtchanildogjhgaaDoor
open Go.RowKit Go.Shelf
set_option linter.unusedVariables false
set_option linter.unusedSimpArgs false
section
variable {w v : World} {ts : List Th} {A : Option Addr} {c : Nat} {xs : List Q5} {bc bp : Nat} {cb pb : List Bool} {ix : Nat} {x : Th}
theorem Fm.set1b (F : Fm w v ((x :: SetOs A c xs bc bp cb pb).set 2 (oB bc 4 ((cb.map Value.bool).set ix (.bool true)))) ts) : Fm w v (x :: SetOs A c xs bc bp (cb.set ix true) pb) ts := by
  unfold SetOs
  rw [List.map_set]
  exact F
theorem Fm.set2b (F : Fm w v ((x :: SetOs A c xs bc bp cb pb).set 3 (oB bp 4 ((pb.map Value.bool).set ix (.bool true)))) ts) : Fm w v (x :: SetOs A c xs bc bp cb (pb.set ix true)) ts := by
  unfold SetOs
  rw [List.map_set]
  exact F
theorem Fm.allR (F : Fm w v (x :: SetOs A c xs bc bp cb pb) ts) {L S S' : Nat → Prop} {l : List Tm} (hL : tLs L S l xs ∈ ts) {Lt : Nat → Prop} {t : Tm} {ct : List Value} (hT : tT Lt S' t ct ∈ ts) (m : Nat) (hm : m = l.length) (hb : m < 1000000) (hcl : cb.length = m) (hok : t.ok = true) (hk : ∀ k ∈ t.kids, k ∈ l) : Calls Tryd.prog 88 #[.slice A m c, .slice (some ⟨bc, 0, none⟩) m m, .agg ct.toArray] v fun e w' => e = .returned (.bool (Tm.allC l cb t.kids)) ∧ Mod [] v w' :=
  rall_c A m c _ l _ bc m cb ct t S' v hm hb (F.asRow (i := 1) rfl hL) (F.blk 2 rfl) hcl (F.ist hT) hok hk
theorem Fm.hasS (F : Fm w v (x :: SetOs A c xs bc bp cb pb) ts) {L S : Nat → Prop} {l : List Tm} (hL : tLs L S l xs ∈ ts) (u : Int) (m : Nat) (hm : m = l.length) (hb : m < 1000000) (hin : Tm.sec u ∈ l) (i : Nat) (hi : i = Tm.idx l (Tm.sec u)) : Calls Tryd.prog 65 #[.slice A m c, .agg (tmc 3 u 0 ⟨#[]⟩ none 0 0).toArray] v fun e w' => e = .returned (.int .i64 (i : Int)) ∧ Mod [] v w' := by
  have := rhas_c A m c _ l _ (tmc 3 u 0 ⟨#[]⟩ none 0 0) (Tm.sec u) (fun _ => False) v hm hb (F.asRow (i := 1) rfl hL) (sec_tis u v)
  rwa [hasI_in hin, ← hi] at this
theorem Fm.hasT (F : Fm w v (x :: SetOs A c xs bc bp cb pb) ts) {L S S' : Nat → Prop} {l : List Tm} (hL : tLs L S l xs ∈ ts) {Lt : Nat → Prop} {t : Tm} {ct : List Value} (hT : tT Lt S' t ct ∈ ts) (m : Nat) (hm : m = l.length) (hb : m < 1000000) (hin : t ∈ l) (i : Nat) (hi : i = Tm.idx l t) : Calls Tryd.prog 65 #[.slice A m c, .agg ct.toArray] v fun e w' => e = .returned (.int .i64 (i : Int)) ∧ Mod [] v w' := by
  have := rhas_c A m c _ l _ ct t S' v hm hb (F.asRow (i := 1) rfl hL) (F.ist hT)
  rwa [hasI_in hin, ← hi] at this
end
theorem steps_at {L : List Tm} {s1 : List Bool × List Bool} {k : Nat} {cb pb : List Bool} (h : Tm.steps L s1 k = (cb, pb)) (hk : k < L.length) (c3 : List Bool) (h3 : Tm.step1 L cb k L[k] = c3) : (Tm.opensC L c3 L[k] = false → Tm.steps L s1 (k + 1) = (c3, pb)) ∧ (Tm.opensC L c3 L[k] = true → Tm.steps L s1 (k + 1) = Tm.give L k (Tm.inner L[k]) (c3, pb)) := by
  have e : Tm.steps L s1 (k + 1) = if Tm.opensC L c3 L[k] then Tm.give L k (Tm.inner L[k]) (c3, pb) else (c3, pb) := by
    rw [Tm.steps_succ, h]
    unfold Tm.step
    rw [List.getElem?_eq_getElem hk]
    simp only
    rw [h3]
  exact ⟨fun h => by rw [e, h]; rfl, fun h => by rw [e, h]; rfl⟩
theorem give_drop (L ks : List Tm) (i q : Nat) (hq : q < ks.length) (c p : List Bool) : Tm.give L i (ks.drop q) (c, p) = Tm.give L i (ks.drop (q + 1)) (Tm.setIf (Tm.gB c i) c (Tm.idx L ks[q]), Tm.setIf (Tm.gB p i) p (Tm.idx L ks[q])) := by
  rw [List.drop_eq_getElem_cons hq]
  rfl
structure Parts8 (X : Prop) where
  k1 : Prop
  k2 : Prop
  k3 : Prop
  k4 : Prop
  k5 : Prop
  k6 : Prop
  k7 : Prop
  k8 : Prop
  all : Kept k1 → Kept k2 → Kept k3 → Kept k4 → Kept k5 → Kept k6 → Kept k7 → Kept k8 → X
set_option maxRecDepth 100000 in
set_option maxHeartbeats 40000000 in
def bodyP : Parts8 setP.one := by
  apply Parts8.mk
  case all =>
  intro H1 H2 H3 H4 H5 H6 H7 H8
  intro w A n c vs K S B nb d vb T Sb hn9 hnb9 q1 q2 u20 u21 u22 u23 u24 u25 u26 u27 u28 u29 u30 u31 q3 q4 q5 q6 q7 q8 q9 q10 q11 q12 q13 q14 M1 q15 u32 u33 u34 u35 u36 u37 u38 u39 u40 u41 u42 u43 q16 m A1 c1 xs S1 q17 L hm hmb HCLO q18 q19 q20 bc w10 bp w11 q21 q22 z0 q23 u50 u51 u52 u53 u54 u55 u56 u57 u58 u59 u60 u61 u62 u63 u64 u65 u66 u67 u68 u69 u70 u71 j hj s0 y0 q24 q25 q26 q27 q28 hjZ q29 u14 q30 q31 q32 q33 q34 u72 u73 u74 u75 u76 u77 u78 q35 q36 q37 q38 q39 q40 q41 q42 q43 q44 q45 q46 q47 q48 q49 q50 q51 q52 q53 q54 q55 q56 q57 q58 q59 q60 q61 q62 q63 q64 q65 q66 q67 q68 q69 q70 q71 q72 q73 q74 q75 q76 q77 q78 q79 q80 q81 q82 q83 q84 q85 q86 q87 q88 q89 q90 q91 q92 q93 q94 q95 q96 q97 q98 q99 q100 q101 q102 q103 q104 q105 q106 q107 q108 q109 q110 q111 q112 q113 q114 q115 q116 q117 q118 q119 q120 q121 q122 q123 q124 q125 q126 q127 q128 q129 q130 q131 q132 q133 q134 q135 q136 q137 q138 q139 q140 q141 q142 q143 q144 q145 q146 q147 q148 q149 q150 q151 q152 q153 q154 q155 r q156 q157 hr hw2 hrZ q158 q159 q160 s1 wr u15 u16 u17 u18 u19 u79 u80 u81 u82 u83 u84 u85 u86 u87 u88 u89 u90 u91 u92 u93 u94 u95 u96 u97 u98 u99 u100 u101 u102 u103 u104 u105 u106 u107 u108 u109 u110 u111 u112 u113 u114 u115 u116 u117 u118 u119 u120 u121 u122 u123 u124 u125 u126 u127 u128 u129 u130 u131 u132 u133 u134 u135 u136 u137 u138 u139 u140 u141 u142 u143 u144 u145 u146 u147 u148 u149 u150 u151 u152 u153 u154 u155 u156 u157 u158 u159 u160 u161 u162 u163 u164 u165 u166 u167 u168 u169 u170 u171 u172 u173 u174 u175 u176 u177 u178 u179 u180 u181 u182 u183 u184 u185 u186 u187 u188 u189 u190 u191 u192 u193 u194 u195 u196 u197 u198 u199 k cb pb hk hst FK hkm hkZ
  have hkL : k < L.length := by rw [← hm.out]; exact hkm
  have hx := (FK.k _ (.inr (List.mem_cons_self ..))).2.1
  have hkx : k < xs.length := by rw [hx.1]; exact hkL
  have hTk := hx.2.1 k hkL hkx
  have hwi := hx.2.2
  obtain ⟨g, oo, hA, hC⟩ := (FK.o 0 rfl : OwnG f5 24 5 wr A1 c1 xs).cells.elem' f5 5 (by omega) f5_len k hkx
  subst hA
  have hmem := List.getElem_mem hkL
  have hok := HCLO.out.1.ok _ hmem
  have hkid := HCLO.out.1.kid _ hmem
  have hsec := HCLO.out.1.sec _ hmem
  have hst2 := fun c3 h3 => steps_at hst.out.1 hkL c3 h3
  have hcl : cb.length = m ∧ pb.length = m := hst.out.2
  obtain ⟨cs, hcs⟩ : ∃ c, c = xs[k].1 := ⟨_, rfl⟩
  have hC' : Cells wr (some ⟨g, oo + k * 5, none⟩) cs := by rw [hcs]; exact hC
  rw [← hcs] at hTk
  obtain ⟨t, ht⟩ : ∃ t, t = L[k] := ⟨_, rfl⟩
  rw [← ht] at hTk hok hkid hsec hst2
  have F0 := FK.also (tT Any S1 t cs) (keeps_tT _ _ _ _) ⟨hTk, hwi⟩ (fun g hg => ⟨_, List.mem_cons_self .., hg⟩)
  have hkk := Tm.kids_kind hok
  obtain ⟨kd, u, nm, s, ks⟩ := t
  obtain ⟨KK, cap, vk, rfl, hrow, hkc, hcm, hk9, hs9⟩ := hTk.row
  obtain ⟨kn, hkn⟩ : ∃ q, q = ks.length := ⟨_, rfl⟩
  rw [← hkn] at F0 hC'
  have hkb : kn ≤ 2 := by
    have h1 : ks.length = Tm.nk kd := hkk.1
    rw [hkn, h1]
    unfold Tm.nk
    split
    · omega
    · split <;> omega
  have h5 : (tmc kd u nm s KK kn cap).length = 5 := rfl
  have h51 : ∀ v ∈ tmc kd u nm s KK kn cap, v.oneCell' = true := by rw [hkn]; exact hTk.one
  have HM9 : Hid (m < 1000000) := Lib.hid (by omega)
  have HKN := Lib.hid (And.intro hkn (show ks.length = Tm.nk kd from hkk.1))
  have HOK := Lib.hid hok
  have HKID : Hid (∀ x ∈ ks, x ∈ L) := Lib.hid hkid
  have HSEC := Lib.hid hsec
  have HCL := Lib.hid hcl
  have HST := Lib.hid hst2
  have HKM := Lib.hid hkm
  have hk18 : 1 ≤ kd ∧ kd ≤ 8 := hkk.2
  clear FK hx hTk hwi hC hmem hok hkid hsec hst2 hcl hcs ht hkk hrow hkc hcm hk9 hs9 hkn hst hkL hkx HCLO hkm
  obtain rfl | rfl | rfl | rfl | rfl | rfl | rfl | rfl : kd = 1 ∨ kd = 2 ∨ kd = 3 ∨ kd = 4 ∨ kd = 5 ∨ kd = 6 ∨ kd = 7 ∨ kd = 8 := by omega
  · clear hk18
    revert w A n c vs K S B nb d vb T Sb hn9 hnb9 q1 q2 u20 u21 u22 u23 u24 u25 u26 u27 u28 u29 u30 u31 q3 q4 q5 q6 q7 q8 q9 q10 q11 q12 q13 q14 M1 q15 u32 u33 u34 u35 u36 u37 u38 u39 u40 u41 u42 u43 q16 m c1 xs S1 q17 L hm hmb q19 bc w10 bp w11 q21 q22 z0 q23 u50 u51 u52 u53 u54 u55 u56 u57 u58 u59 u60 u61 u62 u63 u64 u65 u66 u67 u68 u69 u70 u71 j hj s0 y0 q25 q27 q28 hjZ q29 u14 q30 q31 q32 q33 q34 u72 u73 u74 u75 u76 u77 u78 q35 q36 q37 q38 q39 q40 q41 q42 q43 q44 q45 q46 q47 q48 q49 q50 q51 q52 q53 q54 q55 q56 q57 q58 q59 q60 q61 q62 q63 q64 q65 q66 q67 q68 q69 q70 q71 q72 q73 q74 q75 q76 q77 q78 q79 q80 q81 q82 q83 q84 q85 q86 q87 q88 q89 q90 q91 q92 q93 q94 q95 q96 q97 q98 q99 q100 q101 q102 q103 q104 q105 q106 q107 q108 q109 q110 q111 q112 q113 q114 q115 q116 q117 q118 q119 q120 q121 q122 q123 q124 q125 q126 q127 q128 q129 q130 q131 q132 q133 q134 q135 q136 q137 q138 q139 q140 q141 q142 q143 q144 q145 q146 q147 q148 q149 q150 q151 q152 q153 q154 q155 r q156 q157 hr hw2 hrZ q159 s1 wr u15 u16 u17 u18 u19 u79 u80 u81 u82 u83 u84 u85 u86 u87 u88 u89 u90 u91 u92 u93 u94 u95 u96 u97 u98 u99 u100 u101 u102 u103 u104 u105 u106 u107 u108 u109 u110 u111 u112 u113 u114 u115 u116 u117 u118 u119 u120 u121 u122 u123 u124 u125 u126 u127 u128 u129 u130 u131 u132 u133 u134 u135 u136 u137 u138 u139 u140 u141 u142 u143 u144 u145 u146 u147 u148 u149 u150 u151 u152 u153 u154 u155 u156 u157 u158 u159 u160 u161 u162 u163 u164 u165 u166 u167 u168 u169 u170 u171 u172 u173 u174 u175 u176 u177 u178 u179 u180 u181 u182 u183 u184 u185 u186 u187 u188 u189 u190 u191 u192 u193 u194 u195 u196 u197 u198 u199 k cb pb hk hkZ g oo q18 q20 q24 q26 q158 q160 u nm s ks KK cap vk kn hkb HM9 HKID HCL HKM hC' F0 h5 h51 HKN HOK HSEC HST
    exact H1.out
  · clear hk18
    revert w A n c vs K S B nb d vb T Sb hn9 hnb9 q1 q2 u20 u21 u22 u23 u24 u25 u26 u27 u28 u29 u30 u31 q3 q4 q5 q6 q7 q8 q9 q10 q11 q12 q13 q14 M1 q15 u32 u33 u34 u35 u36 u37 u38 u39 u40 u41 u42 u43 q16 m c1 xs S1 q17 L hm hmb q19 bc w10 bp w11 q21 q22 z0 q23 u50 u51 u52 u53 u54 u55 u56 u57 u58 u59 u60 u61 u62 u63 u64 u65 u66 u67 u68 u69 u70 u71 j hj s0 y0 q25 q27 q28 hjZ q29 u14 q30 q31 q32 q33 q34 u72 u73 u74 u75 u76 u77 u78 q35 q36 q37 q38 q39 q40 q41 q42 q43 q44 q45 q46 q47 q48 q49 q50 q51 q52 q53 q54 q55 q56 q57 q58 q59 q60 q61 q62 q63 q64 q65 q66 q67 q68 q69 q70 q71 q72 q73 q74 q75 q76 q77 q78 q79 q80 q81 q82 q83 q84 q85 q86 q87 q88 q89 q90 q91 q92 q93 q94 q95 q96 q97 q98 q99 q100 q101 q102 q103 q104 q105 q106 q107 q108 q109 q110 q111 q112 q113 q114 q115 q116 q117 q118 q119 q120 q121 q122 q123 q124 q125 q126 q127 q128 q129 q130 q131 q132 q133 q134 q135 q136 q137 q138 q139 q140 q141 q142 q143 q144 q145 q146 q147 q148 q149 q150 q151 q152 q153 q154 q155 r q156 q157 hr hw2 hrZ q159 s1 wr u15 u16 u17 u18 u19 u79 u80 u81 u82 u83 u84 u85 u86 u87 u88 u89 u90 u91 u92 u93 u94 u95 u96 u97 u98 u99 u100 u101 u102 u103 u104 u105 u106 u107 u108 u109 u110 u111 u112 u113 u114 u115 u116 u117 u118 u119 u120 u121 u122 u123 u124 u125 u126 u127 u128 u129 u130 u131 u132 u133 u134 u135 u136 u137 u138 u139 u140 u141 u142 u143 u144 u145 u146 u147 u148 u149 u150 u151 u152 u153 u154 u155 u156 u157 u158 u159 u160 u161 u162 u163 u164 u165 u166 u167 u168 u169 u170 u171 u172 u173 u174 u175 u176 u177 u178 u179 u180 u181 u182 u183 u184 u185 u186 u187 u188 u189 u190 u191 u192 u193 u194 u195 u196 u197 u198 u199 k cb pb hk hkZ g oo q18 q20 q24 q26 q158 q160 u nm s ks KK cap vk kn hkb HM9 HKID HCL HKM hC' F0 h5 h51 HKN HOK HSEC HST
    exact H2.out
  · clear hk18
    revert w A n c vs K S B nb d vb T Sb hn9 hnb9 q1 q2 u20 u21 u22 u23 u24 u25 u26 u27 u28 u29 u30 u31 q3 q4 q5 q6 q7 q8 q9 q10 q11 q12 q13 q14 M1 q15 u32 u33 u34 u35 u36 u37 u38 u39 u40 u41 u42 u43 q16 m c1 xs S1 q17 L hm hmb q19 bc w10 bp w11 q21 q22 z0 q23 u50 u51 u52 u53 u54 u55 u56 u57 u58 u59 u60 u61 u62 u63 u64 u65 u66 u67 u68 u69 u70 u71 j hj s0 y0 q25 q27 q28 hjZ q29 u14 q30 q31 q32 q33 q34 u72 u73 u74 u75 u76 u77 u78 q35 q36 q37 q38 q39 q40 q41 q42 q43 q44 q45 q46 q47 q48 q49 q50 q51 q52 q53 q54 q55 q56 q57 q58 q59 q60 q61 q62 q63 q64 q65 q66 q67 q68 q69 q70 q71 q72 q73 q74 q75 q76 q77 q78 q79 q80 q81 q82 q83 q84 q85 q86 q87 q88 q89 q90 q91 q92 q93 q94 q95 q96 q97 q98 q99 q100 q101 q102 q103 q104 q105 q106 q107 q108 q109 q110 q111 q112 q113 q114 q115 q116 q117 q118 q119 q120 q121 q122 q123 q124 q125 q126 q127 q128 q129 q130 q131 q132 q133 q134 q135 q136 q137 q138 q139 q140 q141 q142 q143 q144 q145 q146 q147 q148 q149 q150 q151 q152 q153 q154 q155 r q156 q157 hr hw2 hrZ q159 s1 wr u15 u16 u17 u18 u19 u79 u80 u81 u82 u83 u84 u85 u86 u87 u88 u89 u90 u91 u92 u93 u94 u95 u96 u97 u98 u99 u100 u101 u102 u103 u104 u105 u106 u107 u108 u109 u110 u111 u112 u113 u114 u115 u116 u117 u118 u119 u120 u121 u122 u123 u124 u125 u126 u127 u128 u129 u130 u131 u132 u133 u134 u135 u136 u137 u138 u139 u140 u141 u142 u143 u144 u145 u146 u147 u148 u149 u150 u151 u152 u153 u154 u155 u156 u157 u158 u159 u160 u161 u162 u163 u164 u165 u166 u167 u168 u169 u170 u171 u172 u173 u174 u175 u176 u177 u178 u179 u180 u181 u182 u183 u184 u185 u186 u187 u188 u189 u190 u191 u192 u193 u194 u195 u196 u197 u198 u199 k cb pb hk hkZ g oo q18 q20 q24 q26 q158 q160 u nm s ks KK cap vk kn hkb HM9 HKID HCL HKM hC' F0 h5 h51 HKN HOK HSEC HST
    exact H3.out
  · clear hk18
    revert w A n c vs K S B nb d vb T Sb hn9 hnb9 q1 q2 u20 u21 u22 u23 u24 u25 u26 u27 u28 u29 u30 u31 q3 q4 q5 q6 q7 q8 q9 q10 q11 q12 q13 q14 M1 q15 u32 u33 u34 u35 u36 u37 u38 u39 u40 u41 u42 u43 q16 m c1 xs S1 q17 L hm hmb q19 bc w10 bp w11 q21 q22 z0 q23 u50 u51 u52 u53 u54 u55 u56 u57 u58 u59 u60 u61 u62 u63 u64 u65 u66 u67 u68 u69 u70 u71 j hj s0 y0 q25 q27 q28 hjZ q29 u14 q30 q31 q32 q33 q34 u72 u73 u74 u75 u76 u77 u78 q35 q36 q37 q38 q39 q40 q41 q42 q43 q44 q45 q46 q47 q48 q49 q50 q51 q52 q53 q54 q55 q56 q57 q58 q59 q60 q61 q62 q63 q64 q65 q66 q67 q68 q69 q70 q71 q72 q73 q74 q75 q76 q77 q78 q79 q80 q81 q82 q83 q84 q85 q86 q87 q88 q89 q90 q91 q92 q93 q94 q95 q96 q97 q98 q99 q100 q101 q102 q103 q104 q105 q106 q107 q108 q109 q110 q111 q112 q113 q114 q115 q116 q117 q118 q119 q120 q121 q122 q123 q124 q125 q126 q127 q128 q129 q130 q131 q132 q133 q134 q135 q136 q137 q138 q139 q140 q141 q142 q143 q144 q145 q146 q147 q148 q149 q150 q151 q152 q153 q154 q155 r q156 q157 hr hw2 hrZ q159 s1 wr u15 u16 u17 u18 u19 u79 u80 u81 u82 u83 u84 u85 u86 u87 u88 u89 u90 u91 u92 u93 u94 u95 u96 u97 u98 u99 u100 u101 u102 u103 u104 u105 u106 u107 u108 u109 u110 u111 u112 u113 u114 u115 u116 u117 u118 u119 u120 u121 u122 u123 u124 u125 u126 u127 u128 u129 u130 u131 u132 u133 u134 u135 u136 u137 u138 u139 u140 u141 u142 u143 u144 u145 u146 u147 u148 u149 u150 u151 u152 u153 u154 u155 u156 u157 u158 u159 u160 u161 u162 u163 u164 u165 u166 u167 u168 u169 u170 u171 u172 u173 u174 u175 u176 u177 u178 u179 u180 u181 u182 u183 u184 u185 u186 u187 u188 u189 u190 u191 u192 u193 u194 u195 u196 u197 u198 u199 k cb pb hk hkZ g oo q18 q20 q24 q26 q158 q160 u nm s ks KK cap vk kn hkb HM9 HKID HCL HKM hC' F0 h5 h51 HKN HOK HSEC HST
    exact H4.out
  · clear hk18
    revert w A n c vs K S B nb d vb T Sb hn9 hnb9 q1 q2 u20 u21 u22 u23 u24 u25 u26 u27 u28 u29 u30 u31 q3 q4 q5 q6 q7 q8 q9 q10 q11 q12 q13 q14 M1 q15 u32 u33 u34 u35 u36 u37 u38 u39 u40 u41 u42 u43 q16 m c1 xs S1 q17 L hm hmb q19 bc w10 bp w11 q21 q22 z0 q23 u50 u51 u52 u53 u54 u55 u56 u57 u58 u59 u60 u61 u62 u63 u64 u65 u66 u67 u68 u69 u70 u71 j hj s0 y0 q25 q27 q28 hjZ q29 u14 q30 q31 q32 q33 q34 u72 u73 u74 u75 u76 u77 u78 q35 q36 q37 q38 q39 q40 q41 q42 q43 q44 q45 q46 q47 q48 q49 q50 q51 q52 q53 q54 q55 q56 q57 q58 q59 q60 q61 q62 q63 q64 q65 q66 q67 q68 q69 q70 q71 q72 q73 q74 q75 q76 q77 q78 q79 q80 q81 q82 q83 q84 q85 q86 q87 q88 q89 q90 q91 q92 q93 q94 q95 q96 q97 q98 q99 q100 q101 q102 q103 q104 q105 q106 q107 q108 q109 q110 q111 q112 q113 q114 q115 q116 q117 q118 q119 q120 q121 q122 q123 q124 q125 q126 q127 q128 q129 q130 q131 q132 q133 q134 q135 q136 q137 q138 q139 q140 q141 q142 q143 q144 q145 q146 q147 q148 q149 q150 q151 q152 q153 q154 q155 r q156 q157 hr hw2 hrZ q159 s1 wr u15 u16 u17 u18 u19 u79 u80 u81 u82 u83 u84 u85 u86 u87 u88 u89 u90 u91 u92 u93 u94 u95 u96 u97 u98 u99 u100 u101 u102 u103 u104 u105 u106 u107 u108 u109 u110 u111 u112 u113 u114 u115 u116 u117 u118 u119 u120 u121 u122 u123 u124 u125 u126 u127 u128 u129 u130 u131 u132 u133 u134 u135 u136 u137 u138 u139 u140 u141 u142 u143 u144 u145 u146 u147 u148 u149 u150 u151 u152 u153 u154 u155 u156 u157 u158 u159 u160 u161 u162 u163 u164 u165 u166 u167 u168 u169 u170 u171 u172 u173 u174 u175 u176 u177 u178 u179 u180 u181 u182 u183 u184 u185 u186 u187 u188 u189 u190 u191 u192 u193 u194 u195 u196 u197 u198 u199 k cb pb hk hkZ g oo q18 q20 q24 q26 q158 q160 u nm s ks KK cap vk kn hkb HM9 HKID HCL HKM hC' F0 h5 h51 HKN HOK HSEC HST
    exact H5.out
  · clear hk18
    revert w A n c vs K S B nb d vb T Sb hn9 hnb9 q1 q2 u20 u21 u22 u23 u24 u25 u26 u27 u28 u29 u30 u31 q3 q4 q5 q6 q7 q8 q9 q10 q11 q12 q13 q14 M1 q15 u32 u33 u34 u35 u36 u37 u38 u39 u40 u41 u42 u43 q16 m c1 xs S1 q17 L hm hmb q19 bc w10 bp w11 q21 q22 z0 q23 u50 u51 u52 u53 u54 u55 u56 u57 u58 u59 u60 u61 u62 u63 u64 u65 u66 u67 u68 u69 u70 u71 j hj s0 y0 q25 q27 q28 hjZ q29 u14 q30 q31 q32 q33 q34 u72 u73 u74 u75 u76 u77 u78 q35 q36 q37 q38 q39 q40 q41 q42 q43 q44 q45 q46 q47 q48 q49 q50 q51 q52 q53 q54 q55 q56 q57 q58 q59 q60 q61 q62 q63 q64 q65 q66 q67 q68 q69 q70 q71 q72 q73 q74 q75 q76 q77 q78 q79 q80 q81 q82 q83 q84 q85 q86 q87 q88 q89 q90 q91 q92 q93 q94 q95 q96 q97 q98 q99 q100 q101 q102 q103 q104 q105 q106 q107 q108 q109 q110 q111 q112 q113 q114 q115 q116 q117 q118 q119 q120 q121 q122 q123 q124 q125 q126 q127 q128 q129 q130 q131 q132 q133 q134 q135 q136 q137 q138 q139 q140 q141 q142 q143 q144 q145 q146 q147 q148 q149 q150 q151 q152 q153 q154 q155 r q156 q157 hr hw2 hrZ q159 s1 wr u15 u16 u17 u18 u19 u79 u80 u81 u82 u83 u84 u85 u86 u87 u88 u89 u90 u91 u92 u93 u94 u95 u96 u97 u98 u99 u100 u101 u102 u103 u104 u105 u106 u107 u108 u109 u110 u111 u112 u113 u114 u115 u116 u117 u118 u119 u120 u121 u122 u123 u124 u125 u126 u127 u128 u129 u130 u131 u132 u133 u134 u135 u136 u137 u138 u139 u140 u141 u142 u143 u144 u145 u146 u147 u148 u149 u150 u151 u152 u153 u154 u155 u156 u157 u158 u159 u160 u161 u162 u163 u164 u165 u166 u167 u168 u169 u170 u171 u172 u173 u174 u175 u176 u177 u178 u179 u180 u181 u182 u183 u184 u185 u186 u187 u188 u189 u190 u191 u192 u193 u194 u195 u196 u197 u198 u199 k cb pb hk hkZ g oo q18 q20 q24 q26 q158 q160 u nm s ks KK cap vk kn hkb HM9 HKID HCL HKM hC' F0 h5 h51 HKN HOK HSEC HST
    exact H6.out
  · clear hk18
    revert w A n c vs K S B nb d vb T Sb hn9 hnb9 q1 q2 u20 u21 u22 u23 u24 u25 u26 u27 u28 u29 u30 u31 q3 q4 q5 q6 q7 q8 q9 q10 q11 q12 q13 q14 M1 q15 u32 u33 u34 u35 u36 u37 u38 u39 u40 u41 u42 u43 q16 m c1 xs S1 q17 L hm hmb q19 bc w10 bp w11 q21 q22 z0 q23 u50 u51 u52 u53 u54 u55 u56 u57 u58 u59 u60 u61 u62 u63 u64 u65 u66 u67 u68 u69 u70 u71 j hj s0 y0 q25 q27 q28 hjZ q29 u14 q30 q31 q32 q33 q34 u72 u73 u74 u75 u76 u77 u78 q35 q36 q37 q38 q39 q40 q41 q42 q43 q44 q45 q46 q47 q48 q49 q50 q51 q52 q53 q54 q55 q56 q57 q58 q59 q60 q61 q62 q63 q64 q65 q66 q67 q68 q69 q70 q71 q72 q73 q74 q75 q76 q77 q78 q79 q80 q81 q82 q83 q84 q85 q86 q87 q88 q89 q90 q91 q92 q93 q94 q95 q96 q97 q98 q99 q100 q101 q102 q103 q104 q105 q106 q107 q108 q109 q110 q111 q112 q113 q114 q115 q116 q117 q118 q119 q120 q121 q122 q123 q124 q125 q126 q127 q128 q129 q130 q131 q132 q133 q134 q135 q136 q137 q138 q139 q140 q141 q142 q143 q144 q145 q146 q147 q148 q149 q150 q151 q152 q153 q154 q155 r q156 q157 hr hw2 hrZ q159 s1 wr u15 u16 u17 u18 u19 u79 u80 u81 u82 u83 u84 u85 u86 u87 u88 u89 u90 u91 u92 u93 u94 u95 u96 u97 u98 u99 u100 u101 u102 u103 u104 u105 u106 u107 u108 u109 u110 u111 u112 u113 u114 u115 u116 u117 u118 u119 u120 u121 u122 u123 u124 u125 u126 u127 u128 u129 u130 u131 u132 u133 u134 u135 u136 u137 u138 u139 u140 u141 u142 u143 u144 u145 u146 u147 u148 u149 u150 u151 u152 u153 u154 u155 u156 u157 u158 u159 u160 u161 u162 u163 u164 u165 u166 u167 u168 u169 u170 u171 u172 u173 u174 u175 u176 u177 u178 u179 u180 u181 u182 u183 u184 u185 u186 u187 u188 u189 u190 u191 u192 u193 u194 u195 u196 u197 u198 u199 k cb pb hk hkZ g oo q18 q20 q24 q26 q158 q160 u nm s ks KK cap vk kn hkb HM9 HKID HCL HKM hC' F0 h5 h51 HKN HOK HSEC HST
    exact H7.out
  · clear hk18
    revert w A n c vs K S B nb d vb T Sb hn9 hnb9 q1 q2 u20 u21 u22 u23 u24 u25 u26 u27 u28 u29 u30 u31 q3 q4 q5 q6 q7 q8 q9 q10 q11 q12 q13 q14 M1 q15 u32 u33 u34 u35 u36 u37 u38 u39 u40 u41 u42 u43 q16 m c1 xs S1 q17 L hm hmb q19 bc w10 bp w11 q21 q22 z0 q23 u50 u51 u52 u53 u54 u55 u56 u57 u58 u59 u60 u61 u62 u63 u64 u65 u66 u67 u68 u69 u70 u71 j hj s0 y0 q25 q27 q28 hjZ q29 u14 q30 q31 q32 q33 q34 u72 u73 u74 u75 u76 u77 u78 q35 q36 q37 q38 q39 q40 q41 q42 q43 q44 q45 q46 q47 q48 q49 q50 q51 q52 q53 q54 q55 q56 q57 q58 q59 q60 q61 q62 q63 q64 q65 q66 q67 q68 q69 q70 q71 q72 q73 q74 q75 q76 q77 q78 q79 q80 q81 q82 q83 q84 q85 q86 q87 q88 q89 q90 q91 q92 q93 q94 q95 q96 q97 q98 q99 q100 q101 q102 q103 q104 q105 q106 q107 q108 q109 q110 q111 q112 q113 q114 q115 q116 q117 q118 q119 q120 q121 q122 q123 q124 q125 q126 q127 q128 q129 q130 q131 q132 q133 q134 q135 q136 q137 q138 q139 q140 q141 q142 q143 q144 q145 q146 q147 q148 q149 q150 q151 q152 q153 q154 q155 r q156 q157 hr hw2 hrZ q159 s1 wr u15 u16 u17 u18 u19 u79 u80 u81 u82 u83 u84 u85 u86 u87 u88 u89 u90 u91 u92 u93 u94 u95 u96 u97 u98 u99 u100 u101 u102 u103 u104 u105 u106 u107 u108 u109 u110 u111 u112 u113 u114 u115 u116 u117 u118 u119 u120 u121 u122 u123 u124 u125 u126 u127 u128 u129 u130 u131 u132 u133 u134 u135 u136 u137 u138 u139 u140 u141 u142 u143 u144 u145 u146 u147 u148 u149 u150 u151 u152 u153 u154 u155 u156 u157 u158 u159 u160 u161 u162 u163 u164 u165 u166 u167 u168 u169 u170 u171 u172 u173 u174 u175 u176 u177 u178 u179 u180 u181 u182 u183 u184 u185 u186 u187 u188 u189 u190 u191 u192 u193 u194 u195 u196 u197 u198 u199 k cb pb hk hkZ g oo q18 q20 q24 q26 q158 q160 u nm s ks KK cap vk kn hkb HM9 HKID HCL HKM hC' F0 h5 h51 HKN HOK HSEC HST
    exact H8.out
end Go.Proofs.YtchanildogjhgaaDoor

