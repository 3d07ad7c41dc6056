/-
  EthersGet: whatever bytes there are, their frame, or why there is none, is the chapter's; they stay, and nothing is shared: the law returns true for every input, and its arguments read as before.
  Conditions: none.
-/
import Derived.Test.YtihhbniceiammaaFrmO
namespace Go.Proofs.Ytihhbniceiammaa.ethersGet
open Go.ChangeShapes Go.WideShapes Go.ChangeAt Go.RowKit Go.Proofs.Ytihhbniceiammaa.Et

set_option maxHeartbeats 4000000 in
theorem walk_short (A : Option Addr) (n c : Nat) (zs : List Int) (w : World) (hs : Slc w (.slice A n c) zs) (hl : zs.length = n) (hz : Byt zs) (h : n < 14) :
    Calls Try.prog 4 #[.slice A n c] w fun e w' => e = .returned (.bool true) ∧ Below w.heap.size w w' := by
  have HS := veil hs
  have HL := veil hl
  have HZ := veil hz
  have K := veil (twinB A n c zs w hl (by omega) (slc_rd hs).1)
  have i3 : ¬ (5000 : Int) < (n : Int) := by omega
  have n16 : n ≤ 16000000 := by omega
  clear hs hl hz
  go_enter Try.func4, Try.ntmps4
  go_wp2_with fail
  refine (K.out).mono ?_
  rintro e w1 ⟨g, hg, rfl, t1, q⟩
  have Y1 := (Lay.begin w).got q t1 hg
  have hw : w.heap.size ≤ g := hg
  have Z6 := z6_macs
  have K1 := get_short (some ⟨g, 0, none⟩) n (n + 4) w1 h
  have K2 := fun u => refGet_short A n c u h
  unfold NoFrame at K1 K2
  generalize z6 = z at *
  replace K1 := veil K1
  replace K2 := veil K2
  replace Z6 := veil Z6
  have VY := veil Y1
  clear q t1 Y1 K
  go_wp2_with fail
  refine (K1.out).mono ?_
  rintro e w2 ⟨rfl, q⟩
  have Y1 := VY.out.keep q
  obtain ⟨Z, hZ⟩ : ∃ Z, Z = zf := ⟨_, rfl⟩
  have hzl : Hid (Z.toList.length = 14) := by rw [hZ]; exact rfl
  have Y2 := Y1.newA Z 27 (g := w2.heap.size) rfl
  have T := veil (frm_store (d := z) (s := z) (k := 0) (v := .slice none 0 0) Y2 mem0 hzl.out Z6.out rfl)
  have Y3 := Y2.put 0 rfl (fc z z 0 (.slice none 0 0))
  simp only [List.set_cons_zero] at Y3
  have qs := below_setRow (below_new w2 (.cells Z 27)) w2.heap.size (fc z z 0 (.slice none 0 0)).toArray (Nat.le_refl _)
  obtain ⟨u2, hu⟩ : ∃ u, (w2.alloc (.cells Z 27)).setRow w2.heap.size (fc z z 0 (.slice none 0 0)).toArray = u := ⟨_, rfl⟩
  rw [hu] at T Y3 qs
  have K3 := veil (K2.out u2)
  have VY := veil Y3
  clear K1 K2 q qs Y1 Y2 Y3 hu
  unfold zf at hZ
  subst hZ
  go_wp2_with (refine wpList_store_of rfl _ _ rfl rfl rfl T.out ?_)
  clear T hzl
  generalize w2.heap.size = g2 at *
  refine (K3.out).mono ?_
  rintro e w3 ⟨rfl, q⟩
  have Y1 := VY.out.keep q
  obtain ⟨Z, hZ⟩ : ∃ Z, Z = zf := ⟨_, rfl⟩
  have hzl : Hid (Z.toList.length = 14) := by rw [hZ]; exact rfl
  have Y2 := Y1.newA Z 27 (g := w3.heap.size) rfl
  have T := veil (frm_store (d := z) (s := z) (k := 0) (v := .slice none 0 0) Y2 mem0 hzl.out Z6.out rfl)
  have Y3 := Y2.put 0 rfl (fc z z 0 (.slice none 0 0))
  simp only [List.set_cons_zero] at Y3
  have qs := below_setRow (below_new w3 (.cells Z 27)) w3.heap.size (fc z z 0 (.slice none 0 0)).toArray (Nat.le_refl _)
  obtain ⟨u3, hu⟩ : ∃ u, (w3.alloc (.cells Z 27)).setRow w3.heap.size (fc z z 0 (.slice none 0 0)).toArray = u := ⟨_, rfl⟩
  rw [hu] at T Y3 qs
  have S := veil (sameFrame_true z z 0 none none 0 0 0 [] u3 Z6.out rfl (by unfold maxLen; omega) (by simp [Rd]) (by simp [Rd]))
  have L1 := veil (frmAt Y3 mem1 Z6.out).all
  have L2 := veil (frmAt Y3 mem0 Z6.out).all
  have VY := veil Y3
  clear K3 q qs Y1 Y2 Y3 hu
  unfold zf at hZ
  subst hZ
  go_wp2_with (first
    | (refine wpList_store_of rfl _ _ rfl rfl rfl T.out ?_)
    | (refine wpList_load_of rfl _ rfl rfl L1.out ?_)
    | (refine wpList_load_of rfl _ rfl rfl L2.out ?_))
  clear T hzl
  generalize w3.heap.size = g3 at *
  refine (S.out).mono ?_
  rintro e w4 ⟨rfl, q⟩
  have Y1 := VY.out.keep q
  have KL := veil (leftBytes_true g A n (n + 4) c zs w4 HL.out n16 (Y1.at mem2) (slc_rd (HS.out.keep Y1.below)).1 (Nat.le_refl _))
  have VY := veil Y1
  clear q S L1 L2 Y1
  go_wp2_with fail
  refine (KL.out).mono ?_
  rintro e w5 ⟨rfl, hst⟩
  have Y1 := VY.out.still hst
  clear hst KL
  have VY := veil Y1
  clear Y1
  go_wp2_with fail
  have hB := book_new w5
  have Y1 := VY.out.keep (below_new w5 (.cells #[.slice none 0 0] 38))
  have s6 : w5.heap.size ≤ (w5.alloc (.cells #[.slice none 0 0] 38)).heap.size := by simp
  have s5 : w.heap.size ≤ w5.heap.size := VY.out.size
  generalize w5.alloc (.cells #[.slice none 0 0] 38) = w6 at *
  generalize w5.heap.size = kb at *
  clear VY
  refine (note_any w6 kb kb [] _ _ _ hB (by simp) s6).mono ?_
  rintro e w7 ⟨rfl, ⟨x7, y7, hB7⟩, hf7⟩
  have Y2 := Y1.bfB hf7 s5 (by rfl)
  have s7 : kb ≤ w7.heap.size := Nat.le_trans s6 hf7.1.size
  have b0 := (frmAt Y2 mem1 Z6.out).body
  have VY := veil Y2
  have HB := veil hB7
  clear hB hB7 hf7 Y1 Y2 s6
  go_wp2_with fail
  refine (note_any w7 kb kb _ _ _ _ HB.out (by simp) s7).mono ?_
  rintro e w8 ⟨rfl, ⟨x8, y8, hB8⟩, hf8⟩
  have Y3 := VY.out.bfB hf8 s5 (by rfl)
  have hA : Hid (Calls Try.prog 17 #[.pointer (some ⟨kb, 0, none⟩)] w8 fun e w' => e = .returned (.bool true) ∧ Below w.heap.size w w') := by
    have hl' := HL.out
    refine apart_any w.heap.size w w8 kb kb _ hB8 (by simp) Y3.below Y3.below.size ?_ ?_ ?_
    · intro i L hi
      match i with
      | 0 => simp at hi; subst hi; exact ⟨by simp, by simp; omega, fun _ => ⟨_, _, _, rfl, Y3.at mem2, by simp [bv_length, hl']⟩⟩
      | 1 => simp at hi; subst hi; exact ⟨by simp, by simp, fun h => by simp at h⟩
      | i + 2 => simp at hi
    · intro i j L M hi hj hij b1 o1 o2 h3 h4
      exfalso
      match i, j with
      | 0, 0 => exact hij rfl
      | 1, 1 => exact hij rfl
      | 0, 1 => simp at hi hj; subst hi hj; simp at h4
      | 1, 0 => simp at hi hj; subst hi hj; simp at h3
      | i + 2, _ => simp at hi
      | 0, j + 2 => simp at hj
      | 1, j + 2 => simp at hj
    · intro i L a hi ha
      match i with
      | 0 => simp at hi; subst hi; simp at ha; subst ha; exact hw
      | 1 => simp at hi; subst hi; simp at ha
      | i + 2 => simp at hi
  clear hB8 hf8 HB Y3 VY b0
  go_wp2_with fail
  refine (hA.out).mono ?_
  rintro e w9 ⟨rfl, b9⟩
  clear hA
  go_wp2_with fail
  refine (lives_true _).mono ?_
  rintro e w10 ⟨rfl, q⟩
  go_wp2_with fail
  go_ret
  exact ⟨rfl, b9.trans (q.mono b9.size)⟩

set_option maxHeartbeats 4000000 in
theorem walk_long (A : Option Addr) (n c : Nat) (zs : List Int) (w : World) (hs : Slc w (.slice A n c) zs) (hl : zs.length = n) (hz : Byt zs) (h5 : n ≤ 5000) (h : 1514 < n) :
    Calls Try.prog 4 #[.slice A n c] w fun e w' => e = .returned (.bool true) ∧ Below w.heap.size w w' := by
  have HS := veil hs
  have HL := veil hl
  have HZ := veil hz
  have K := veil (twinB A n c zs w hl (by omega) (slc_rd hs).1)
  have i3 : ¬ (5000 : Int) < (n : Int) := by omega
  have n16 : n ≤ 16000000 := by omega
  clear hs hl hz
  go_enter Try.func4, Try.ntmps4
  go_wp2_with fail
  refine (K.out).mono ?_
  rintro e w1 ⟨g, hg, rfl, t1, q⟩
  have Y1 := (Lay.begin w).got q t1 hg
  have hw : w.heap.size ≤ g := hg
  have Z6 := z6_macs
  have K1 := get_long (some ⟨g, 0, none⟩) n (n + 4) w1 h
  have K2 := fun u => refGet_long A n c u h
  unfold NoFrame at K1 K2
  generalize z6 = z at *
  replace K1 := veil K1
  replace K2 := veil K2
  replace Z6 := veil Z6
  have VY := veil Y1
  clear q t1 Y1 K
  go_wp2_with fail
  refine (K1.out).mono ?_
  rintro e w2 ⟨rfl, q⟩
  have Y1 := VY.out.keep q
  obtain ⟨Z, hZ⟩ : ∃ Z, Z = zf := ⟨_, rfl⟩
  have hzl : Hid (Z.toList.length = 14) := by rw [hZ]; exact rfl
  have Y2 := Y1.newA Z 27 (g := w2.heap.size) rfl
  have T := veil (frm_store (d := z) (s := z) (k := 0) (v := .slice none 0 0) Y2 mem0 hzl.out Z6.out rfl)
  have Y3 := Y2.put 0 rfl (fc z z 0 (.slice none 0 0))
  simp only [List.set_cons_zero] at Y3
  have qs := below_setRow (below_new w2 (.cells Z 27)) w2.heap.size (fc z z 0 (.slice none 0 0)).toArray (Nat.le_refl _)
  obtain ⟨u2, hu⟩ : ∃ u, (w2.alloc (.cells Z 27)).setRow w2.heap.size (fc z z 0 (.slice none 0 0)).toArray = u := ⟨_, rfl⟩
  rw [hu] at T Y3 qs
  have K3 := veil (K2.out u2)
  have VY := veil Y3
  clear K1 K2 q qs Y1 Y2 Y3 hu
  unfold zf at hZ
  subst hZ
  go_wp2_with (refine wpList_store_of rfl _ _ rfl rfl rfl T.out ?_)
  clear T hzl
  generalize w2.heap.size = g2 at *
  refine (K3.out).mono ?_
  rintro e w3 ⟨rfl, q⟩
  have Y1 := VY.out.keep q
  obtain ⟨Z, hZ⟩ : ∃ Z, Z = zf := ⟨_, rfl⟩
  have hzl : Hid (Z.toList.length = 14) := by rw [hZ]; exact rfl
  have Y2 := Y1.newA Z 27 (g := w3.heap.size) rfl
  have T := veil (frm_store (d := z) (s := z) (k := 0) (v := .slice none 0 0) Y2 mem0 hzl.out Z6.out rfl)
  have Y3 := Y2.put 0 rfl (fc z z 0 (.slice none 0 0))
  simp only [List.set_cons_zero] at Y3
  have qs := below_setRow (below_new w3 (.cells Z 27)) w3.heap.size (fc z z 0 (.slice none 0 0)).toArray (Nat.le_refl _)
  obtain ⟨u3, hu⟩ : ∃ u, (w3.alloc (.cells Z 27)).setRow w3.heap.size (fc z z 0 (.slice none 0 0)).toArray = u := ⟨_, rfl⟩
  rw [hu] at T Y3 qs
  have S := veil (sameFrame_true z z 0 none none 0 0 0 [] u3 Z6.out rfl (by unfold maxLen; omega) (by simp [Rd]) (by simp [Rd]))
  have L1 := veil (frmAt Y3 mem1 Z6.out).all
  have L2 := veil (frmAt Y3 mem0 Z6.out).all
  have VY := veil Y3
  clear K3 q qs Y1 Y2 Y3 hu
  unfold zf at hZ
  subst hZ
  go_wp2_with (first
    | (refine wpList_store_of rfl _ _ rfl rfl rfl T.out ?_)
    | (refine wpList_load_of rfl _ rfl rfl L1.out ?_)
    | (refine wpList_load_of rfl _ rfl rfl L2.out ?_))
  clear T hzl
  generalize w3.heap.size = g3 at *
  refine (S.out).mono ?_
  rintro e w4 ⟨rfl, q⟩
  have Y1 := VY.out.keep q
  have KL := veil (leftBytes_true g A n (n + 4) c zs w4 HL.out n16 (Y1.at mem2) (slc_rd (HS.out.keep Y1.below)).1 (Nat.le_refl _))
  have VY := veil Y1
  clear q S L1 L2 Y1
  go_wp2_with fail
  refine (KL.out).mono ?_
  rintro e w5 ⟨rfl, hst⟩
  have Y1 := VY.out.still hst
  clear hst KL
  have VY := veil Y1
  clear Y1
  go_wp2_with fail
  have hB := book_new w5
  have Y1 := VY.out.keep (below_new w5 (.cells #[.slice none 0 0] 38))
  have s6 : w5.heap.size ≤ (w5.alloc (.cells #[.slice none 0 0] 38)).heap.size := by simp
  have s5 : w.heap.size ≤ w5.heap.size := VY.out.size
  generalize w5.alloc (.cells #[.slice none 0 0] 38) = w6 at *
  generalize w5.heap.size = kb at *
  clear VY
  refine (note_any w6 kb kb [] _ _ _ hB (by simp) s6).mono ?_
  rintro e w7 ⟨rfl, ⟨x7, y7, hB7⟩, hf7⟩
  have Y2 := Y1.bfB hf7 s5 (by rfl)
  have s7 : kb ≤ w7.heap.size := Nat.le_trans s6 hf7.1.size
  have b0 := (frmAt Y2 mem1 Z6.out).body
  have VY := veil Y2
  have HB := veil hB7
  clear hB hB7 hf7 Y1 Y2 s6
  go_wp2_with fail
  refine (note_any w7 kb kb _ _ _ _ HB.out (by simp) s7).mono ?_
  rintro e w8 ⟨rfl, ⟨x8, y8, hB8⟩, hf8⟩
  have Y3 := VY.out.bfB hf8 s5 (by rfl)
  have hA : Hid (Calls Try.prog 17 #[.pointer (some ⟨kb, 0, none⟩)] w8 fun e w' => e = .returned (.bool true) ∧ Below w.heap.size w w') := by
    have hl' := HL.out
    refine apart_any w.heap.size w w8 kb kb _ hB8 (by simp) Y3.below Y3.below.size ?_ ?_ ?_
    · intro i L hi
      match i with
      | 0 => simp at hi; subst hi; exact ⟨by simp, by simp; omega, fun _ => ⟨_, _, _, rfl, Y3.at mem2, by simp [bv_length, hl']⟩⟩
      | 1 => simp at hi; subst hi; exact ⟨by simp, by simp, fun h => by simp at h⟩
      | i + 2 => simp at hi
    · intro i j L M hi hj hij b1 o1 o2 h3 h4
      exfalso
      match i, j with
      | 0, 0 => exact hij rfl
      | 1, 1 => exact hij rfl
      | 0, 1 => simp at hi hj; subst hi hj; simp at h4
      | 1, 0 => simp at hi hj; subst hi hj; simp at h3
      | i + 2, _ => simp at hi
      | 0, j + 2 => simp at hj
      | 1, j + 2 => simp at hj
    · intro i L a hi ha
      match i with
      | 0 => simp at hi; subst hi; simp at ha; subst ha; exact hw
      | 1 => simp at hi; subst hi; simp at ha
      | i + 2 => simp at hi
  clear hB8 hf8 HB Y3 VY b0
  go_wp2_with fail
  refine (hA.out).mono ?_
  rintro e w9 ⟨rfl, b9⟩
  clear hA
  go_wp2_with fail
  refine (lives_true _).mono ?_
  rintro e w10 ⟨rfl, q⟩
  go_wp2_with fail
  go_ret
  exact ⟨rfl, b9.trans (q.mono b9.size)⟩

set_option maxHeartbeats 4000000 in
theorem walk_good (A : Option Addr) (n c : Nat) (zs : List Int) (w : World) (hs : Slc w (.slice A n c) zs) (hl : zs.length = n) (hz : Byt zs) (h1 : 14 ≤ n) (h2 : n ≤ 1514) :
    Calls Try.prog 4 #[.slice A n c] w fun e w' => e = .returned (.bool true) ∧ Below w.heap.size w w' := by
  have HS := veil hs
  have HL := veil hl
  have HZ := veil hz
  have K := veil (twinB A n c zs w hl (by omega) (slc_rd hs).1)
  have i3 : ¬ (5000 : Int) < (n : Int) := by omega
  have n16 : n ≤ 16000000 := by omega
  clear hs hl hz
  go_enter Try.func4, Try.ntmps4
  go_wp2_with fail
  refine (K.out).mono ?_
  rintro e w1 ⟨g, hg, rfl, t1, q⟩
  have Y1 := (Lay.begin w).got q t1 hg
  have hw : w.heap.size ≤ g := hg
  have GM := veil (get_macs (zs := zs) (by rw [HL.out]; omega))
  have K1 := get_good (some ⟨g, 0, none⟩) n (n + 4) zs w1 HL.out h1 h2 HZ.out (TwinAt.rd t1)
  have K2 := fun u hb => refGet_good A n c zs u h1 h2 HZ.out (HS.out.keep (w' := u) hb)
  unfold OneFrame at K1
  unfold RefFrame at K2
  rw [HL.out] at K1 K2
  generalize gd zs = d at *
  generalize gs zs = s at *
  generalize gk zs = k at *
  replace K1 := veil K1
  replace K2 := veil K2
  have VY := veil Y1
  clear q t1 Y1 K
  go_wp2_with fail
  refine (K1.out).mono ?_
  rintro e w2 ⟨b, o, hb, ho, rfl, hrow, hrd, q⟩
  have Y1 := VY.out.got q hrow hb
  have hbg : g ≠ b := by have := VY.out.lt mem0; omega
  have hwb : w.heap.size ≤ b := Nat.le_trans VY.out.size hb
  obtain ⟨Z, hZ⟩ : ∃ Z, Z = zf := ⟨_, rfl⟩
  have hzl : Hid (Z.toList.length = 14) := by rw [hZ]; exact rfl
  have Y2 := Y1.newA Z 27 (g := w2.heap.size) rfl
  have T := veil (frm_store (d := d) (s := s) (k := k) (v := .slice (some ⟨b, o, none⟩) (n - 14) (n - 14)) Y2 mem0 hzl.out GM.out rfl)
  have Y3 := Y2.put 0 rfl (fc d s k (.slice (some ⟨b, o, none⟩) (n - 14) (n - 14)))
  simp only [List.set_cons_zero] at Y3
  have qs := below_setRow (below_new w2 (.cells Z 27)) w2.heap.size (fc d s k (.slice (some ⟨b, o, none⟩) (n - 14) (n - 14))).toArray (Nat.le_refl _)
  obtain ⟨u2, hu⟩ : ∃ u, (w2.alloc (.cells Z 27)).setRow w2.heap.size (fc d s k (.slice (some ⟨b, o, none⟩) (n - 14) (n - 14))).toArray = u := ⟨_, rfl⟩
  rw [hu] at T Y3 qs
  have R1 := veil (hrd.keep qs)
  have K3 := veil (K2.out u2 Y3.below)
  have VY := veil Y3
  clear K1 K2 q qs Y1 Y2 Y3 hu hrow hrd
  unfold zf at hZ
  subst hZ
  go_wp2_with (refine wpList_store_of rfl _ _ rfl rfl rfl T.out ?_)
  clear T hzl
  generalize w2.heap.size = g2 at *
  refine (K3.out).mono ?_
  rintro e w3 ⟨A2, c2, rfl, hrd, q⟩
  have Y1 := VY.out.keep q
  obtain ⟨Z, hZ⟩ : ∃ Z, Z = zf := ⟨_, rfl⟩
  have hzl : Hid (Z.toList.length = 14) := by rw [hZ]; exact rfl
  have Y2 := Y1.newA Z 27 (g := w3.heap.size) rfl
  have T := veil (frm_store (d := d) (s := s) (k := k) (v := .slice A2 (n - 14) c2) Y2 mem0 hzl.out GM.out rfl)
  have Y3 := Y2.put 0 rfl (fc d s k (.slice A2 (n - 14) c2))
  simp only [List.set_cons_zero] at Y3
  have qs := below_setRow (below_new w3 (.cells Z 27)) w3.heap.size (fc d s k (.slice A2 (n - 14) c2)).toArray (Nat.le_refl _)
  obtain ⟨u3, hu⟩ : ∃ u, (w3.alloc (.cells Z 27)).setRow w3.heap.size (fc d s k (.slice A2 (n - 14) c2)).toArray = u := ⟨_, rfl⟩
  rw [hu] at T Y3 qs
  have R1 := (R1.out.keep q).keep qs
  have R2 := hrd.keep qs
  have S := veil (sameFrame_true d s k (some ⟨b, o, none⟩) A2 (n - 14) (n - 14) c2 (zs.drop 14) u3 GM.out (by have := HL.out; simp; omega) (by unfold maxLen; omega) R1 R2)
  have L1 := veil (frmAt Y3 mem1 GM.out).all
  have L2 := veil (frmAt Y3 mem0 GM.out).all
  have VY := veil Y3
  clear K3 q qs Y1 Y2 Y3 hu hrd R1 R2
  unfold zf at hZ
  subst hZ
  go_wp2_with (first
    | (refine wpList_store_of rfl _ _ rfl rfl rfl T.out ?_)
    | (refine wpList_load_of rfl _ rfl rfl L1.out ?_)
    | (refine wpList_load_of rfl _ rfl rfl L2.out ?_))
  clear T hzl
  generalize w3.heap.size = g3 at *
  refine (S.out).mono ?_
  rintro e w4 ⟨rfl, q⟩
  have Y1 := VY.out.keep q
  have KL := veil (leftBytes_true g A n (n + 4) c zs w4 HL.out n16 (Y1.at mem3) (slc_rd (HS.out.keep Y1.below)).1 (Nat.le_refl _))
  have VY := veil Y1
  clear q S L1 L2 Y1
  go_wp2_with fail
  refine (KL.out).mono ?_
  rintro e w5 ⟨rfl, hst⟩
  have Y1 := VY.out.still hst
  clear hst KL
  have VY := veil Y1
  clear Y1
  go_wp2_with fail
  have hB := book_new w5
  have Y1 := VY.out.keep (below_new w5 (.cells #[.slice none 0 0] 38))
  have s6 : w5.heap.size ≤ (w5.alloc (.cells #[.slice none 0 0] 38)).heap.size := by simp
  have s5 : w.heap.size ≤ w5.heap.size := VY.out.size
  generalize w5.alloc (.cells #[.slice none 0 0] 38) = w6 at *
  generalize w5.heap.size = kb at *
  clear VY
  refine (note_any w6 kb kb [] _ _ _ hB (by simp) s6).mono ?_
  rintro e w7 ⟨rfl, ⟨x7, y7, hB7⟩, hf7⟩
  have Y2 := Y1.bfB hf7 s5 (by rfl)
  have s7 : kb ≤ w7.heap.size := Nat.le_trans s6 hf7.1.size
  have b0 := (frmAt Y2 mem1 GM.out).body
  have VY := veil Y2
  have HB := veil hB7
  clear hB hB7 hf7 Y1 Y2 s6
  go_wp2_with fail
  refine (note_any w7 kb kb _ _ _ _ HB.out (by simp) s7).mono ?_
  rintro e w8 ⟨rfl, ⟨x8, y8, hB8⟩, hf8⟩
  have Y3 := VY.out.bfB hf8 s5 (by rfl)
  have hA : Hid (Calls Try.prog 17 #[.pointer (some ⟨kb, 0, none⟩)] w8 fun e w' => e = .returned (.bool true) ∧ Below w.heap.size w w') := by
    have hl' := HL.out
    refine apart_any w.heap.size w w8 kb kb _ hB8 (by simp) Y3.below Y3.below.size ?_ ?_ ?_
    · intro i L hi
      match i with
      | 0 => simp at hi; subst hi; exact ⟨by simp, by simp; omega, fun _ => ⟨_, _, _, rfl, Y3.at mem3, by simp [bv_length, hl']⟩⟩
      | 1 => simp at hi; subst hi; exact ⟨by simp, by simp; omega, fun _ => ⟨_, _, _, rfl, Y3.at mem2, by simp [bv_length, hl']; omega⟩⟩
      | i + 2 => simp at hi
    · intro i j L M hi hj hij b1 o1 o2 h3 h4
      exfalso
      match i, j with
      | 0, 0 => exact hij rfl
      | 1, 1 => exact hij rfl
      | 0, 1 => simp at hi hj; subst hi hj; simp at h3 h4; omega
      | 1, 0 => simp at hi hj; subst hi hj; simp at h3 h4; omega
      | i + 2, _ => simp at hi
      | 0, j + 2 => simp at hj
      | 1, j + 2 => simp at hj
    · intro i L a hi ha
      match i with
      | 0 => simp at hi; subst hi; simp at ha; subst ha; exact hw
      | 1 => simp at hi; subst hi; simp at ha; subst ha; exact hwb
      | i + 2 => simp at hi
  clear hB8 hf8 HB Y3 VY b0
  go_wp2_with fail
  refine (hA.out).mono ?_
  rintro e w9 ⟨rfl, b9⟩
  clear hA
  go_wp2_with fail
  refine (lives_true _).mono ?_
  rintro e w10 ⟨rfl, q⟩
  go_wp2_with fail
  go_ret
  exact ⟨rfl, b9.trans (q.mono b9.size)⟩

/-- more than are gone through -/
theorem walk_more (A : Option Addr) (n c : Nat) (w : World) (h : 5000 < n) :
    Calls Try.prog 4 #[.slice A n c] w fun e w' => e = .returned (.bool true) ∧ Below w.heap.size w w' := by
  have i3 : (5000 : Int) < (n : Int) := by omega
  go_enter Try.func4, Try.ntmps4
  go_wp2_with fail
  refine (lives_true _).mono ?_
  rintro e w1 ⟨rfl, q⟩
  go_wp2_with fail
  go_ret
  exact ⟨rfl, q⟩

theorem own : ownKnob Try.prog.godebug = none := by kernel_rfl
theorem readable : ∀ t ∈ Try.f4.params.toList, Try.prog.readableRec t = true ∧ t < Try.prog.types.size := by
  rw [Try.params4]
  intro t ht
  simp at ht
  subst ht
  exact ⟨by kernel_rfl, of_decide_eq_true (by kernel_rfl)⟩

set_option maxRecDepth 100000 in
theorem lifted (os : Os) (started : os.Started) (H : Type) (enc : TypeId × Value → H) :
    ReturnsInHanded {} Try.checked os 4 .any (Rows.ethersGetSpec.pre6 enc Try.prog Try.f4 Rows.ethersGetRow.domain false) (Rows.ethersGetSpec.post enc Try.prog Try.f4 false true false false) := by
  refine returnsInHanded_of_change_sized (C := Try.checked) own started (by kernel_rfl) Try.func4
    (ChangeSpec.witness6 (enc := enc) (C := Try.checked) false ⟨#[], #[.slice none 0 0], []⟩ 8 (by kernel_rfl) (by kernel_rfl) (by kernel_rfl) (by kernel_rfl)) ?_
  intro W base args ds gs before hval0 hW _ hsz0 _
  have hval : ∀ (j : Nat) t v, Try.f4.params[j]? = some t → args[j]? = some v → Value.okWide Try.prog W .any base t v := hval0
  have hW' := hW
  obtain ⟨p, q, hA0, hV, rfl, _, _⟩ := hW
  have hA : DataW.TrodAll enc Try.prog W 0 (fun _ => true) true Try.f4.params.toList args.toList ds p := hA0
  rw [Try.params4] at hA hval
  obtain ⟨v0, vs0, d0, ds0, p0, q0, hargs, rfl, rfl, h0, r0⟩ := trodAll_cons hA
  obtain ⟨rfl, rfl, rfl⟩ := trodAll_nil r0
  obtain rfl : args = #[v0] := by cases args; simp_all
  obtain ⟨rfl, rfl⟩ := trodVars_none hV
  obtain ⟨A, n, c, zs, e, hs, hl, hy⟩ := opens_bytes (opens_arg h0 (slim_of hsz0 (j := 0) rfl rfl))
  obtain rfl : v0 = .slice A n c := by
    obtain ⟨A', n', c', rfl⟩ := okWide_slice Try.underlying25 (hval 0 25 v0 rfl rfl)
    simpa [Value.cells] using e
  have hw : Calls Try.prog 4 #[.slice A n c] W fun e w' => e = .returned (.bool true) ∧ Below W.heap.size W w' := by
    rcases (by omega : 5000 < n ∨ n < 14 ∨ (n ≤ 5000 ∧ 1514 < n) ∨ (14 ≤ n ∧ n ≤ 1514)) with h | h | ⟨h5, h⟩ | ⟨h1, h2⟩
    · exact walk_more A n c W h
    · exact walk_short A n c zs W hs hl hy h
    · exact walk_long A n c zs W hs hl hy h5 h
    · exact walk_good A n c zs W hs hl hy h1 h2
  refine hw.mono fun e W' ⟨he, hb⟩ => ?_
  subst he
  exact ⟨_, rfl, law_post (by kernel_rfl) rfl rfl Try.underlying4 readable hW' rfl hb⟩

/-- EthersGet, as given -/
theorem holds : Rows.EthersGetSaid :=
  OpenClaim.holds_of_wide 4 Try.f4 rfl rfl rfl rfl rfl rfl rfl ⟨rfl, rfl, rfl, rfl, rfl⟩ rfl rfl rfl rfl rfl (by kernel_rfl) Try.func4 (by kernel_rfl)
    (of_decide_eq_true (by kernel_rfl)) (by unfold Func.isWrapper; first | (rw [if_pos (by decide +kernel)]; kernel_rfl) | (rw [if_neg (by decide +kernel)]; exact ⟨rfl, rfl⟩))
    (fun os started H enc _ => lifted os started H enc)

#print axioms holds
end Go.Proofs.Ytihhbniceiammaa.ethersGet
