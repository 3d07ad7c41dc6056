/-
  OptionsPut: whatever options there are, their bytes, and which is the first of a kind, are the chapter's; they stay, and nothing is shared: the law returns true for every input, and its arguments read as before; the tables that the row lists are tied to the program's text.
  Conditions: none.
-/
import Derived.Test.YtdebifkefpclaaaDoorOpoY
import Derived.Test.YtdebifkefpclaaaDoorOpoQ
import Derived.Test.YtdebifkefpclaaaDoorOpoF
namespace Go.Proofs.YtdebifkefpclaaaDoor.optionsPut
set_option maxRecDepth 100000
open Go.ChangeShapes Go.WideShapes Go.ChangeAt Go.RowKit Go.Proofs.YtdebifkefpclaaaDoor.Oz Ops

/-- what the law is handed -/
structure Fits (W : World) (A : Option Addr) (n : Nat) (os : List (Int × List Int)) : Prop where
  l : os.length = n
  r : Reads W A os
  f : Fine os
  s : n + sumL os ≤ 5000
  m : Mx W
theorem Fits.len {W : World} {A : Option Addr} {n : Nat} {os : List (Int × List Int)} (h : Fits W A n os) : ∀ o ∈ os, o.2.length ≤ 16000000 := fun o ho => by
  have := sumL_mem ho
  have := h.s
  omega
theorem Fits.size {W : World} {A : Option Addr} {n : Nat} {os : List (Int × List Int)} (h : Fits W A n os) : sizeO os ≤ 50000 := by
  have := sizeO_sum os
  have := h.s
  have := h.l
  omega

/-- what a call of Find tells, by value -/
def Tell (R : Option (Int × List Int)) (k : Int) (zs : List Int) (z : Bool) : Prop := (R = none ∧ k = 0 ∧ zs = [] ∧ z = false) ∨ (∃ o, R = some o ∧ k = o.1 ∧ zs = o.2 ∧ z = true)
theorem tell_one {R : Option (Int × List Int)} {k k' : Int} {zs zs' : List Int} {z z' : Bool} (h : Tell R k zs z) (h' : Tell R k' zs' z') : k = k' ∧ zs = zs' ∧ z = z' := by
  rcases h with ⟨h1, h2, h3, h4⟩ | ⟨o, h1, h2, h3, h4⟩ <;> rcases h' with ⟨g1, g2, g3, g4⟩ | ⟨p, g1, g2, g3, g4⟩
  · exact ⟨h2.trans g2.symm, h3.trans g3.symm, h4.trans g4.symm⟩
  · rw [h1] at g1; cases g1
  · rw [h1] at g1; cases g1
  · rw [h1] at g1; injection g1 with g1; subst g1; exact ⟨h2.trans g2.symm, h3.trans g3.symm, h4.trans g4.symm⟩
/-- bytes in a block of their own -/
def Mine (B : Nat) (w : World) (A : Option Addr) (n c : Nat) : Prop := (A = none ∧ n = 0 ∧ c = 0) ∨ ∃ q cs, A = some ⟨q, 0, none⟩ ∧ n ≤ c ∧ c ≤ 16777216 ∧ Row w q 5 cs ∧ c ≤ cs.size ∧ B ≤ q
theorem Mine.rows {B : Nat} {w w' : World} {A : Option Addr} {n c : Nat} (h : Mine B w A n c) (q : ∀ g cs, Row w g 5 cs → Row w' g 5 cs) : Mine B w' A n c := by
  rcases h with h | ⟨b, cs, h1, h2, h3, h4, h5, h6⟩
  · exact .inl h
  · exact .inr ⟨b, cs, h1, h2, h3, q b cs h4, h5, h6⟩
theorem mine_own {base : Nat} {w : World} {A : Option Addr} {n c : Nat} {zs : List Int} (h : Own w base (.slice A n c) zs) (hn : n ≤ 16000000) : Mine base w A n n := by
  rcases h.2 with ⟨e, _⟩ | ⟨g, cap, cur, e, hg, hr, hc, _, hs, _⟩
  · injection e with e1 e2 e3
    exact .inl ⟨e1, e2, e2⟩
  · injection e with e1 e2 e3
    exact .inr ⟨g, cur, e1, Nat.le_refl _, by omega, hr, by omega, hg⟩
theorem mine_wide {B : Nat} {w : World} {A : Option Addr} {n c : Nat} (h : Mine B w A n c) : Wide w A n c := by
  rcases h with ⟨h1, h2, h3⟩ | ⟨q, cs, h1, h2, h3, h4, h5, h6⟩
  · exact ⟨by omega, by omega, fun h => by omega⟩
  · exact ⟨h2, h3, fun _ => ⟨q, 0, cs, h1, h4, by omega⟩⟩
theorem mine_fit {B : Nat} {w : World} {Ls : List Leaf} (h : ∀ (i : Nat) L, Ls[i]? = some L → Mine B w L.A L.n L.c)
    (hd : ∀ (i j q q' : Nat) (L M : Leaf), i < j → Ls[i]? = some L → Ls[j]? = some M → L.A = some ⟨q, 0, none⟩ → M.A = some ⟨q', 0, none⟩ → q ≠ q') :
    (∀ (i : Nat) L, Ls[i]? = some L → Wide w L.A L.n L.c) ∧ (∀ (i j : Nat) L M, Ls[i]? = some L → Ls[j]? = some M → i ≠ j → Dis L M) ∧ (∀ (i : Nat) L a, Ls[i]? = some L → L.A = some a → B ≤ a.block) := by
  have h0 : ∀ (i b o : Nat) (L : Leaf), Ls[i]? = some L → L.A = some ⟨b, o, none⟩ → o = 0 := fun i b o L hi ha => by
    rcases h i L hi with ⟨h1, _, _⟩ | ⟨q, cs, h1, _⟩
    · rw [h1] at ha; cases ha
    · rw [h1] at ha; injection ha with ha; injection ha with _ ha; exact ha.symm
  refine ⟨fun i L hi => mine_wide (h i L hi), fun i j L M hi hj hij b o o' ha hb => ?_, fun i L a hi ha => ?_⟩
  · obtain rfl := h0 i b o L hi ha
    obtain rfl := h0 j b o' M hj hb
    rcases Nat.lt_or_gt_of_ne hij with hl | hl
    · exact absurd rfl (hd i j b b L M hl hi hj ha hb)
    · exact absurd rfl (hd j i b b M L hl hj hi hb ha)
  · rcases h i L hi with ⟨h1, _, _⟩ | ⟨q, cs, h1, _, _, _, _, hb⟩
    · rw [h1] at ha; cases ha
    · rw [h1] at ha; injection ha with ha; subst ha; exact hb
def FoundC (w : World) (R : Option (Int × List Int)) (e : Ending) (w' : World) : Prop :=
  ∃ k A m z zs, e = .returned (.tuple #[ov ⟨k, A, m, m⟩, .bool z]) ∧ Tell R k zs z ∧ Slc w' (.slice A m m) zs ∧ Mine w.heap.size w' A m m ∧ Below w.heap.size w w'
def FoundT (w : World) (R : Option (Int × List Int)) (e : Ending) (w' : World) : Prop :=
  ∃ x z zs, e = .returned (.tuple #[ov x, .bool z]) ∧ Tell R x.k zs z ∧ Slc w' x.v zs ∧ Below w.heap.size w w'
theorem code_of {w : World} {R : Option (Int × List Int)} {e : Ending} {w' : World} (hR : ∀ o, R = some o → o.2.length ≤ 16000000) (h : Oz.Found w R e w') : FoundC w R e w' := by
  cases R with
  | none =>
    obtain ⟨he, hb⟩ := h
    exact ⟨0, none, 0, false, [], he, .inl ⟨rfl, rfl, rfl, rfl⟩, .inl ⟨rfl, rfl⟩, .inl ⟨rfl, rfl, rfl⟩, hb⟩
  | some o =>
    obtain ⟨A, n, c, he, ho, hb⟩ := h
    have hn : o.2.length = n := (slc_of ho.slc).1
    have := hR o rfl
    have hm := mine_own ho (by omega)
    refine ⟨o.1, A, n, true, o.2, he, .inr ⟨o, rfl, rfl, rfl, rfl⟩, ?_, hm, hb⟩
    rcases hm with ⟨h1, h2, _⟩ | ⟨q, cs, h1, _⟩
    · subst h1 h2
      exact .inl ⟨rfl, List.eq_nil_of_length_eq_zero hn⟩
    · subst h1
      exact .inr ⟨_, n, by rw [hn], (slc_of ho.slc).2.1, by omega⟩
theorem text_of {w : World} {R : Option (Int × List Int)} {e : Ending} {w' : World} (h : FoundR w R e w') : FoundT w R e w' := by
  cases R with
  | none =>
    obtain ⟨he, hb⟩ := h
    exact ⟨⟨0, none, 0, 0⟩, false, [], he, .inl ⟨rfl, rfl, rfl, rfl⟩, .inl ⟨rfl, rfl⟩, hb⟩
  | some o =>
    obtain ⟨x, he, h1, h2, hb⟩ := h
    exact ⟨x, true, o.2, he, .inr ⟨o, rfl, h1, rfl, rfl⟩, h2, hb⟩
theorem find_len {os : List (Int × List Int)} {k : Int} {o : Int × List Int} (h : findO os k = some o) : o ∈ os := List.mem_of_find?_eq_some h

theorem Mine.mono {B B' : Nat} {w : World} {A : Option Addr} {n c : Nat} (h : Mine B w A n c) (hb : B' ≤ B) : Mine B' w A n c := by
  rcases h with h | ⟨b, cs, h1, h2, h3, h4, h5, h6⟩
  · exact .inl h
  · exact .inr ⟨b, cs, h1, h2, h3, h4, h5, Nat.le_trans hb h6⟩
theorem Mine.off {B : Nat} {w : World} {A : Option Addr} {n c q o : Nat} (h : Mine B w A n c) (ha : A = some ⟨q, o, none⟩) : B ≤ q := by
  rcases h with ⟨h1, _, _⟩ | ⟨b, cs, h1, h2, h3, h4, h5, h6⟩
  · rw [h1] at ha; cases ha
  · rw [h1] at ha; injection ha with ha; injection ha with ha; omega
/-- all leaves lie apart -/
theorem leaves_fit {w0 w : World} {g n b N m1 s1 s2 : Nat} {A1 : Option Addr} {ls : List El} {os : List (Int × List Int)} {Ms : List Leaf} {px py qx qy : Int} {bs : List Int}
    (T : Twins w0 w g ls os (n + 4)) (hl : os.length = n) (hlen : ∀ o ∈ os, o.2.length ≤ 16000000) (hN : Notes (ls.take n) Ms) (hr : Row w b 5 (bv bs).toArray) (hbs : bs.length = N) (hN16 : N ≤ 50000) (M : Mine s2 w A1 m1 m1)
    (h1 : w0.heap.size ≤ s1) (h12 : s1 ≤ s2) (hf : ∀ (j p : Nat) (x : El), j < n → ls[j]? = some x → x.A = some ⟨p, 0, none⟩ → p < s1) (hb : s1 ≤ b) (hb2 : b < s2) (Ls : List Leaf) (hLs : Ls = Ms ++ [⟨some ⟨b, 0, none⟩, N, N, px, py⟩] ++ [⟨A1, m1, m1, qx, qy⟩]) :
    (∀ (i : Nat) L, Ls[i]? = some L → Wide w L.A L.n L.c) ∧ (∀ (i j : Nat) L M, Ls[i]? = some L → Ls[j]? = some M → i ≠ j → Dis L M) ∧ (∀ (i : Nat) L a, Ls[i]? = some L → L.A = some a → w0.heap.size ≤ a.block) := by
  have hnl : (ls.take n).length = n := by rw [List.length_take, T.len, hl]; omega
  have hMl : Ms.length = n := by rw [hN.1, hnl]
  have cls : ∀ (i : Nat) (L : Leaf), Ls[i]? = some L → (i < n ∧ ∃ o q, os[i]? = some o ∧ ls[i]? = some ⟨o.1, some ⟨q, 0, none⟩, o.2.length, o.2.length + 4⟩ ∧ TwinAt w q o.2 ∧ w0.heap.size ≤ q ∧ L.A = some ⟨q, 0, none⟩ ∧ L.n = o.2.length ∧ L.c = o.2.length + 4) ∨ (i = n ∧ L.A = some ⟨b, 0, none⟩ ∧ L.n = N ∧ L.c = N) ∨ (i = n + 1 ∧ L.A = A1 ∧ L.n = m1 ∧ L.c = m1) := fun i L hi => by
    subst hLs
    rcases Nat.lt_or_ge i n with h | h
    · rw [List.append_assoc, List.getElem?_append_left (by omega)] at hi
      obtain ⟨o, ho⟩ : ∃ o, os[i]? = some o := ⟨_, List.getElem?_eq_getElem (by omega)⟩
      obtain ⟨q, e1, e2, e3⟩ := T.each i o (by omega) ho
      obtain ⟨M', f1, f2, f3, f4⟩ := hN.2 i _ (by rw [List.getElem?_take, if_pos h]; exact e1)
      rw [hi] at f1
      injection f1 with f1
      subst f1
      exact .inl ⟨h, o, q, ho, e1, e2, e3, f2, f3, f4⟩
    · rw [List.append_assoc, List.getElem?_append_right (by omega), hMl] at hi
      rcases (by have := (List.getElem?_eq_some_iff.1 hi).1; simp at this; omega : i - n = 0 ∨ i - n = 1) with h' | h'
      · rw [h'] at hi
        simp at hi
        subst hi
        exact .inr (.inl ⟨by omega, rfl, rfl, rfl⟩)
      · rw [h'] at hi
        simp at hi
        subst hi
        exact .inr (.inr ⟨by omega, rfl, rfl, rfl⟩)
  refine mine_fit (fun i L hi => ?_) (fun i j q q' L L' hij hi hj ha hb' e => ?_)
  · rcases cls i L hi with ⟨_, o, q, ho, _, ht, hq, e1, e2, e3⟩ | ⟨_, e1, e2, e3⟩ | ⟨_, e1, e2, e3⟩
    · have := hlen o (List.mem_of_getElem? ho)
      exact .inr ⟨q, _, e1, by omega, by omega, ht, by rw [e3]; simp [bv_length], hq⟩
    · exact .inr ⟨b, _, e1, by omega, by omega, hr, by rw [e3]; simp [bv_length, hbs], by omega⟩
    · rw [e1, e2, e3]
      exact M.mono (by omega)
  · subst e
    rcases cls i L hi with ⟨hi1, o, p, ho, hx, ht, hq, e1, e2, e3⟩ | ⟨hi1, e1, e2, e3⟩ | ⟨hi1, e1, e2, e3⟩
    · have hp := hf i p _ hi1 hx rfl
      have hpq : p = q := by rw [e1] at ha; injection ha with ha; injection ha with ha
      subst hpq
      rcases cls j L' hj with ⟨hj1, o', p', ho', hx', ht', hq', f1, f2, f3⟩ | ⟨hj1, f1, f2, f3⟩ | ⟨hj1, f1, f2, f3⟩
      · have hpq' : p' = p := by rw [f1] at hb'; injection hb' with hb'; injection hb' with hb'
        subst hpq'
        have := T.apart i j p' p' _ _ hij (by omega) (by omega) hx hx' rfl rfl
        omega
      · rw [f1] at hb'; injection hb' with hb'; injection hb' with hb'; omega
      · rw [f1] at hb'
        have := M.off hb'
        omega
    · have hbq : b = q := by rw [e1] at ha; injection ha with ha; injection ha with ha
      rcases cls j L' hj with ⟨hj1, _⟩ | ⟨hj1, f1, f2, f3⟩ | ⟨hj1, f1, f2, f3⟩
      · omega
      · omega
      · rw [f1] at hb'
        have := M.off hb'
        omega
    · rcases cls j L' hj with ⟨hj1, _⟩ | ⟨hj1, _⟩ | ⟨hj1, _⟩ <;> omega

/-- greater than is gone through -/
theorem walk_great (A : Option Addr) (n c : Nat) (os : List (Int × List Int)) (q : Int) (w : World) (hl : os.length = n) (hn : n ≤ 140737488355328) (ha : Reads w A os) (hf : Fine os) (hm : Mx w) (h : 5000 < n + sumL os) :
    Calls Tryd.prog 3 #[.slice A n c, .int .u8 q] w fun e w' => e = .returned (.bool true) ∧ Below w.heap.size w w' := by
  have K := great_any A n c os w hl hn ha hf
  rw [decide_eq_true h] at K
  replace K := veil K
  have KV := veil (lives_true w hm)
  clear hl hn ha hf hm h
  go_enter Tryd.func3, Tryd.ntmps3
  go_wp2_with fail
  refine (K.out).mono ?_
  rintro e w1 ⟨rfl, rfl⟩
  clear K
  go_wp2_with fail
  refine (KV.out).mono ?_
  rintro e w2 ⟨rfl, q2⟩
  clear KV
  go_wp2_with fail
  go_ret
  exact ⟨rfl, q2⟩


set_option linter.unusedSimpArgs false in
set_option maxHeartbeats 16000000 in
theorem walk_all (A : Option Addr) (n c : Nat) (os : List (Int × List Int)) (q : Int) (w : World) (H : Fits w A n os) :
    Calls Tryd.prog 3 #[.slice A n c, .int .u8 q] w fun e w' => e = .returned (.bool true) ∧ Below w.heap.size w w' := by
  have K := great_any A n c os w H.l (by have := H.s; omega) H.r H.f
  rw [decide_eq_false (by have := H.s; omega)] at K
  replace K := veil K
  have KT := veil (twinOptions_any A n c os w H.l (by have := H.s; omega) H.r H.len)
  have HH := veil H
  have n5 : n ≤ 5000 := by have := H.s; omega
  have hR : Hid (∀ o, findO os q = some o → o.2.length ≤ 16000000) := veil (fun o ho => H.len o (find_len ho))
  obtain ⟨R, hRR⟩ : ∃ R, findO os q = R := ⟨_, rfl⟩
  rw [hRR] at hR
  have HRR := veil hRR
  clear H hRR
  go_enter Tryd.func3, Tryd.ntmps3
  go_wp2_with fail
  refine (K.out).mono ?_
  rintro e w1 ⟨rfl, rfl⟩
  clear K
  go_wp2_with fail
  refine (KT.out).mono ?_
  rintro e w1 ⟨g, ls, rfl, T1⟩
  have hl := HH.out.l
  have KP := veil (codePut (some ⟨g, 0, none⟩) n (n + 4) os w1 hl (by subst hl; exact T1.reads) (by have := HH.out.size; omega) HH.out.len HH.out.f.k)
  have VT := veil T1
  clear KT T1
  go_wp2_with fail
  refine (KP.out).mono ?_
  rintro e w2 ⟨b, hb, rfl, rb, q2⟩
  have T2 := VT.out.keep q2
  have KF := veil ((codeFind (some ⟨g, 0, none⟩) n (n + 4) os q w2 hl (by omega) (by subst hl; exact T2.reads) HH.out.len).mono fun _ _ h => code_of (R := R) hR.out (by rw [← HRR.out]; exact h))
  have hbl := rb.lt
  have Y2 : Hid (Lay w1 w2 [(b, 5, bv (putO os))]) := veil ((Lay.begin w1).got q2 rb hb)
  have HT1 : Hid (∀ (j p : Nat) (x : El), j < n → ls[j]? = some x → x.A = some ⟨p, 0, none⟩ → p < w1.heap.size) := veil (fun j p x h1 h2 h3 => by
    obtain ⟨o, ho⟩ : ∃ o, os[j]? = some o := ⟨_, List.getElem?_eq_getElem (by omega)⟩
    obtain ⟨p', g1, g2, _⟩ := VT.out.each j o (by omega) ho
    rw [h2] at g1
    injection g1 with g1
    subst g1
    injection h3 with h3
    injection h3 with h3
    subst h3
    exact g2.lt)
  have hs1 : w.heap.size ≤ w1.heap.size := VT.out.below.size
  have VT2 := veil T2
  have HB := veil hb
  have HBL := veil hbl
  clear KP VT T2 rb q2 hb hbl
  go_wp2_with fail
  refine (KF.out).mono ?_
  rintro e w3 ⟨k1, A1, m1, z, zs, rfl, HT, S1, M1, q3⟩
  have T3 := VT2.out.keep q3
  have Y3 := Y2.out.keep q3
  have HM1 := veil M1
  have HTE := veil HT
  have HS1 := veil S1
  have VT3 := veil T3
  have VY3 := veil Y3
  have qa := below_new w3 (.cells #[.int .u8 k1, .slice A1 m1 m1] 29)
  have VT4 := veil (VT3.out.keep qa)
  have VY4 := veil (VY3.out.got qa (show Row _ w3.heap.size 29 (tv ⟨k1, A1, m1, m1⟩).toArray from row_new rfl) (Nat.le_refl _))
  have VS4 := veil (HS1.out.keep qa)
  have VM4 := veil (HM1.out.rows fun g cs h => h.keep qa)
  have hs12 : w1.heap.size ≤ w2.heap.size := Y2.out.size
  have HO2 : Hid (w2.heap.size ≤ w3.heap.size) := veil q3.size
  have KR := veil ((refFind A n c os q (w3.alloc (.cells #[.int .u8 k1, .slice A1 m1 m1] 29)) hl (by omega) (HH.out.r.keep VT4.out.below)).mono fun _ _ h => text_of (R := R) (by rw [← HRR.out]; exact h))
  clear KF VT2 Y2 q3 T3 Y3 HT S1 M1 HM1 HS1 VT3 VY3 qa
  go_wp2_with fail
  generalize w3.alloc (.cells #[.int .u8 k1, .slice A1 m1 m1] 29) = u3 at *
  generalize w3.heap.size = g1 at *
  refine (KR.out).mono ?_
  rintro e w4 ⟨x2, z2, zs2, rfl, HT2, S2, q4⟩
  obtain ⟨k2, A2, n2, c2⟩ := x2
  obtain ⟨ek, ez, eb⟩ := tell_one HTE.out HT2
  simp only at ek
  subst ek ez eb
  have qa := below_new w4 (.cells #[.int .u8 k1, .slice A2 n2 c2] 29)
  have qb := q4.trans (qa.mono q4.size)
  have VT5 := veil (VT4.out.keep qb)
  have Y5 := VY4.out.keep q4
  have VY5 := veil (Y5.got qa (show Row _ w4.heap.size 29 (tv ⟨k1, A2, n2, c2⟩).toArray from row_new rfl) (Nat.le_refl _))
  have VS5 := veil (VS4.out.keep qb)
  have VM5 := veil (VM4.out.rows fun g cs h => h.keep qb)
  have VZ5 := veil (S2.keep qa)
  have KQ := veil (refPut A n c os (w4.alloc (.cells #[.int .u8 k1, .slice A2 n2 c2] 29)) hl (HH.out.r.keep VT5.out.below) (by have := HH.out.size; omega) HH.out.len)
  clear KR HT2 S2 q4 qa qb VT4 VY4 Y5 VS4 VM4
  go_wp2_with fail
  generalize w4.alloc (.cells #[.int .u8 k1, .slice A2 n2 c2] 29) = u4 at *
  generalize w4.heap.size = g2 at *
  refine (KQ.out).mono ?_
  rintro e w5 ⟨A5, m5, c5, rfl, hm5, O5, q5⟩
  obtain rfl : m5 = sizeO os := hm5
  have VT6 := veil (VT5.out.keep q5)
  have VY6 := veil (VY5.out.keep q5)
  have VS6 := veil (VS5.out.keep q5)
  have VM6 := veil (VM5.out.rows fun g cs h => h.keep q5)
  have VZ6 := veil (VZ5.out.keep q5)
  have SB := veil (sameBytes_eq (some ⟨b, 0, none⟩) A5 (sizeO os) (sizeO os) c5 (putO os) w5 rfl (by unfold maxLen; have := HH.out.size; omega) (rd_row (VY6.out.at mem2) (fun j hj => by rw [Nat.zero_add]; exact bv_get _ j hj)) (slc_of O5.slc).2.1)
  clear KQ O5 q5 VT5 VY5 VS5 VM5 VZ5
  go_wp2_with fail
  refine (SB.out).mono ?_
  rintro e w6 ⟨rfl, st6⟩
  have q6 := below_still (Below.refl w5.heap.size w5) st6
  have VT7 := veil (VT6.out.keep q6)
  have VY7 := veil (VY6.out.keep q6)
  have VS7 := veil (VS6.out.keep q6)
  have VM7 := veil (VM6.out.rows fun g cs h => h.keep q6)
  have VZ7 := veil (VZ6.out.keep q6)
  have D1 := veil (VY7.out.load (P := Tryd.prog) (ty := 29) mem1 (part_all _) Tryd.underlying29 rfl zeroO)
  have D2 := veil (VY7.out.load (P := Tryd.prog) (ty := 29) mem0 (part_all _) Tryd.underlying29 rfl zeroO)
  have hz5 : zs.length ≤ 16000000 := by
    rcases HTE.out with ⟨_, _, h, _⟩ | ⟨o, h1, _, h2, _⟩
    · rw [h]; simp
    · rw [h2]; exact hR.out o h1
  have SO := veil (sameOption_true ⟨k1, A1, m1, m1⟩ ⟨k1, A2, n2, c2⟩ zs w6 rfl VS7.out VZ7.out hz5)
  clear SB st6 q6 VT6 VY6 VS6 VM6 VZ6
  go_wp2_with (first
    | (refine wpList_load_of rfl (.tmp 7) rfl rfl D1.out ?_)
    | (refine wpList_load_of rfl (.tmp 9) rfl rfl D2.out ?_))
  refine (SO.out).mono ?_
  rintro e w7 ⟨rfl, q7⟩
  have VT8 := veil (VT7.out.keep q7)
  have VY8 := veil (VY7.out.keep q7)
  have VM8 := veil (VM7.out.rows fun g cs h => h.keep q7)
  have LO := veil (leftOptions_true g ls A n c os w w7 hl (by omega) VT8.out (HH.out.r.keep VT8.out.below) HH.out.len)
  clear SO D1 D2 q7 VT7 VY7 VS7 VM7 VZ7 hz5
  go_wp2_with fail
  refine (LO.out).mono ?_
  rintro e w8 ⟨rfl, q8⟩
  have VT9 := veil (VT8.out.keep q8)
  have VY9 := veil (VY8.out.keep q8)
  have VM9 := veil (VM8.out.rows fun g cs h => h.keep q8)
  clear LO q8 VT8 VY8 VM8
  go_wp2_with fail
  have hB := book_new w8
  have qa := below_new w8 (.cells #[.slice none 0 0] 37)
  have VTa := veil (VT9.out.keep qa)
  have Ya := VY9.out.keep qa
  have VRb := veil (Ya.at mem2)
  have VRo := veil (Ya.at mem1)
  have VMa := veil (VM9.out.rows fun g cs h => h.keep qa)
  have s5 : w.heap.size ≤ w8.heap.size := VT9.out.below.size
  have s6 : w8.heap.size ≤ (w8.alloc (.cells #[.slice none 0 0] 37)).heap.size := by simp
  clear VT9 VY9 VM9 qa Ya
  generalize w8.alloc (.cells #[.slice none 0 0] 37) = wa at *
  generalize w8.heap.size = kb at *
  have hsz := HH.out.size
  obtain ⟨N, hNN⟩ : ∃ N, sizeO os = N := ⟨_, rfl⟩
  rw [hNN] at hsz
  refine (noteOptions wa kb kb [] (some ⟨g, 0, none⟩) n (n + 4) (ls.take n) hB (by rw [List.length_take, VTa.out.len, hl]; omega) (by have := VTa.out.inRow; rw [hl] at this; exact this) (by simp; omega) s6).mono ?_
  rintro e wb ⟨rfl, ⟨Ms, hN, hBb⟩, hfb⟩
  rw [List.nil_append] at hBb
  have VTb := veil (VTa.out.bf hfb s5)
  have VRb2 := veil (hfb.row VRb.out)
  have VRo2 := veil (hfb.2 _ _ _ VRo.out (by decide) (by decide))
  have VMb := veil (VMa.out.rows fun g cs h => hfb.row h)
  have sb : kb ≤ wb.heap.size := Nat.le_trans s6 hfb.1.size
  have HNO := veil hN
  have hMl : Ms.length = n := by rw [hN.1, List.length_take, VTb.out.len, hl]; omega
  have KN1 := veil (note_any wb kb kb Ms (some ⟨b, 0, none⟩) N N hBb (by omega) sb)
  have HML := veil hMl
  have HNN := veil hNN
  clear hB hBb hfb VTa VRb VRo VMa s6 hN hMl
  rw [hNN]
  clear hNN
  go_wp2_with fail
  refine (KN1.out).mono ?_
  rintro e wc ⟨rfl, ⟨px, py, hBc⟩, hfc⟩
  have VTc := veil (VTb.out.bf hfc s5)
  have VRb3 := veil (hfc.row VRb2.out)
  have VRo3 := veil (hfc.2 _ _ _ VRo2.out (by decide) (by decide))
  have VMc := veil (VMb.out.rows fun g cs h => hfc.row h)
  have sc : kb ≤ wc.heap.size := Nat.le_trans sb hfc.1.size
  have d1 : wc.cell? ⟨g1, 1, none⟩ = some (.slice A1 m1 m1) := by rw [VRo3.out.cell]; rfl
  have KN2 := veil (note_any wc kb kb _ A1 m1 m1 hBc (by rw [List.length_append, HML.out]; simp; omega) sc)
  clear KN1 hBc hfc VTb VRb2 VRo2 VMb sb VRo3
  go_wp2_with fail
  refine (KN2.out).mono ?_
  rintro e wd ⟨rfl, ⟨qx, qy, hBd⟩, hfd⟩
  have T := VTc.out.bf hfd s5
  have M := VMc.out.rows fun g cs h => hfd.row h
  obtain ⟨Ls, hLs⟩ : ∃ Ls, Ls = Ms ++ [(⟨some ⟨b, 0, none⟩, N, N, px, py⟩ : Leaf)] ++ [⟨A1, m1, m1, qx, qy⟩] := ⟨_, rfl⟩
  rw [← hLs] at hBd
  have hLl : Ls.length = n + 2 := by rw [hLs]; simp [HML.out]
  have hbelow := T.below
  have hA : Hid (Calls Tryd.prog 21 #[.pointer (some ⟨kb, 0, none⟩)] wd fun e w' => e = .returned (.bool true) ∧ Below w.heap.size w w') := by
    by_cases hc : n + 2 ≤ 120
    · obtain ⟨wide, dis, own⟩ := leaves_fit T hl HH.out.len HNO.out (hfd.row VRb3.out) HNN.out hsz M hs1 hs12 HT1.out HB.out HBL.out Ls hLs
      exact veil (apart_any w.heap.size w wd kb kb Ls hBd (by omega) hbelow hbelow.size wide dis own)
    · exact veil ((apart_many wd kb kb Ls hBd (by omega) (by omega)).mono fun e w' ⟨h1, h2⟩ => ⟨h1, by subst h2; exact hbelow⟩)
  clear KN2 hBd hfd VTc VRb3 VMc sc d1 T M hbelow hLs hLl
  go_wp2_with fail
  refine (hA.out).mono ?_
  rintro e we ⟨rfl, be⟩
  have KV := veil (lives_true we (HH.out.m.keep be))
  have VBE := veil be
  clear hA be
  go_wp2_with fail
  refine (KV.out).mono ?_
  rintro e wf ⟨rfl, qf⟩
  clear KV
  go_wp2_with fail
  go_ret
  exact ⟨rfl, VBE.out.trans (qf.mono VBE.out.size)⟩

theorem own : ownKnob Tryd.prog.godebug = none := by kernel_rfl
theorem readable : ∀ t ∈ Tryd.f3.params.toList, Tryd.prog.readableRec t = true ∧ t < Tryd.prog.types.size := by
  rw [Tryd.params3]
  intro t ht
  simp at ht
  rcases ht with rfl | rfl
  · exact ⟨by kernel_rfl, of_decide_eq_true (by kernel_rfl)⟩
  · exact ⟨by kernel_rfl, of_decide_eq_true (by kernel_rfl)⟩

set_option maxRecDepth 100000 in
theorem lifted (os : Os) (started : os.Started) (H : Type) (enc : TypeId × Value → H) :
    ReturnsInHanded {} Tryd.checked os 3 .any (fun w args => (Rows.optionsPutSpec.pre enc Tryd.prog Tryd.f3 [] false w args ∧ laidMetH Tryd.prog laid2 w) ∧ sizedMet enc Tryd.prog Tryd.f3 (OpenSpec.ofChange Rows.optionsPutSpec) false w args)
      (Rows.optionsPutSpec.post enc Tryd.prog Tryd.f3 false true false false) := by
  refine returns_sized (C := Tryd.checked) (X := fun w _ => laidMetH Tryd.prog laid2 w) (fun _ _ _ hh h => h.of_heap hh) own started (by kernel_rfl) Tryd.func3
    (ChangeSpec.witness_shaped (enc := enc) (C := Tryd.checked) (os := os) (X := fun w _ => laidMetH Tryd.prog laid2 w) false (World.laidAll Tryd.prog os laid2) #[.slice none 0 0, .int .u8 0] 8 (World.laidAll_os _ _ _) (World.shaped_of_ZipB (by kernel_rfl) (by kernel_rfl)) (by kernel_rfl) (by kernel_rfl) (by kernel_rfl) (door_met os _)) ?_
  intro W base args ds gs before hval0 hW hL hSh hsz0
  have hval : ∀ (j : Nat) t v, Tryd.f3.params[j]? = some t → args[j]? = some v → Value.okWide Tryd.prog W .any base t v := hval0
  have hW' := hW
  obtain ⟨p, q, hA0, hV, rfl, _, _⟩ := hW
  have hA : DataW.TrodAll enc Tryd.prog W 0 (fun _ => true) true Tryd.f3.params.toList args.toList ds p := hA0
  rw [Tryd.params3] at hA hval
  obtain ⟨v0, vs0, d0, ds0, p0, q0, hargs, rfl, rfl, h0, r0⟩ := trodAll_cons hA
  obtain ⟨v1, vs1, d1, ds1, p1, q1, rfl, rfl, rfl, h1, r1⟩ := trodAll_cons r0
  obtain ⟨rfl, rfl, rfl⟩ := trodAll_nil r1
  obtain rfl : args = #[v0, v1] := by cases args; simp_all
  obtain ⟨rfl, rfl⟩ := trodVars_none hV
  have hk := mx_met hL hSh
  obtain ⟨A, n, c, os, e0, _, h2, hl, hr, hf⟩ := open_options (opens_arg h0 (slim_of hsz0 (j := 0) rfl rfl))
  obtain rfl : v0 = .slice A n c := by
    have := hval 0 22 v0 rfl rfl
    obtain ⟨A', n', c', rfl⟩ := okWide_slice Tryd.underlying22 this
    simpa [Value.cells] using e0
  obtain ⟨q, rfl, rfl, rfl, w1⟩ := open_int Tryd.underlying5 (hval 1 5 v1 rfl rfl) h1
  have hq : 0 ≤ q ∧ q ≤ 255 := by simpa [Lit.wf, IntKind.min, IntKind.max, IntKind.signed, IntKind.bits] using w1
  have hw : Calls Tryd.prog 3 #[.slice A n c, .int .u8 q] W fun e w' => e = .returned (.bool true) ∧ Below W.heap.size W w' := by
    by_cases hg : 5000 < n + sumL os
    · exact walk_great A n c os q W hl h2 hr hf hk hg
    exact walk_all A n c os q W ⟨hl, hr, hf, by omega, hk⟩
  refine hw.mono fun e W' ⟨he, hb⟩ => ?_
  subst he
  exact ⟨_, rfl, law_post (by kernel_rfl) rfl rfl Tryd.underlying4 readable hW' rfl hb⟩

/-- OptionsPut: the row, as given -/
theorem row : Rows.OptionsPutSaid :=
  OpenClaim.holds_of_wide 3 Tryd.f3 rfl rfl rfl rfl rfl rfl rfl ⟨rfl, rfl, rfl, rfl, rfl⟩ rfl rfl rfl rfl rfl (by kernel_rfl) Tryd.func3 (by kernel_rfl)
    (of_decide_eq_true (by kernel_rfl)) (by unfold Func.isWrapper; first | (rw [if_pos (by decide +kernel)]; kernel_rfl) | (rw [if_neg (by decide +kernel)]; exact ⟨rfl, rfl⟩))
    (fun os started H enc _ => lifted os started H enc)

/-- OptionsPut: the tied card, as given -/
theorem holds : Rows.OptionsPutCardSaid :=
  Claim7.holds_tied_plain_at .later [] [.data, .pinned] true Rows.optionsPutCard.stood.harness false
    row (fun _ h => by cases h) (by kernel_rfl) (fun _ h => by cases h) optionsPut_row_tie rfl ⟨rfl, rfl⟩ (by kernel_rfl) rfl
    (fun f fn hf hfn => by
      obtain rfl : f = 3 := Option.some.inj ((show Tryd.prog.funcNamed "sojourner/sojournerlaw10.OptionsPut" = some 3 by kernel_rfl).symm.trans hf) |>.symm
      obtain rfl : fn = Tryd.f3 := (Option.some.inj (Tryd.func3.symm.trans hfn)).symm
      exact ⟨by kernel_rfl, fun j t ht => by
        rw [Tryd.params3] at ht
        have hm : t ∈ [22, 5] := by simpa using Array.mem_of_getElem? ht
        have hall : ([22, 5].all fun u => !Tryd.prog.wantsStandIn u) = true := by kernel_rfl
        exact (show Tryd.prog.wantsStandIn t = false by simpa using List.all_eq_true.1 hall t hm)⟩)
    (by kernel_rfl)

#print axioms holds
end Go.Proofs.YtdebifkefpclaaaDoor.optionsPut
