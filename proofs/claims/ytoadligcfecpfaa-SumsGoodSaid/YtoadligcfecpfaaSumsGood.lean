/-
  SumsGood: where the checksum over an end's bytes is put at an even place at which two noughts stood, they are good; with any bit turned they are not: the law returns true for every input, and its arguments read as before.
  Conditions: none.
-/
import Derived.Test.YtoadligcfecpfaaSumEn
import Derived.StillTailTactics
namespace Go.Proofs.Ytoadligcfecpfaa.sumsGood
open Go.ChangeShapes Go.WideShapes Go.ChangeAt Go.RowKit

/-- a row of one's own that is not nil, as its cells -/
theorem own_row {w : World} {base : Nat} {v : Value} {xs : List Int} (h : Own w base v xs) (hx : xs ≠ []) : ∃ g cap rest, v = .slice (some ⟨g, 0, none⟩) xs.length cap ∧ base ≤ g ∧ Row w g 5 (bv xs ++ rest).toArray ∧ xs.length ≤ cap := by
  unfold Own at h
  rcases h.2 with ⟨rfl, h0⟩ | ⟨g, cap, cur, rfl, hb, hg, hc, _, _, ht⟩
  · exact absurd (List.eq_nil_of_length_eq_zero h0) hx
  · refine ⟨g, cap, cur.toList.drop xs.length, rfl, hb, ?_, hc⟩
    have e : (bv xs ++ cur.toList.drop xs.length).toArray = cur := by
      rw [← ht, Nat.mul_one, List.take_append_drop]
    rw [e]
    exact hg

theorem row_part {w : World} {g : Nat} {t : TypeId} {xs : List Int} {rest : List Value} (h : Row w g t (bv xs ++ rest).toArray) : Rd w (some ⟨g, 0, none⟩) xs :=
  rd_row h (fun j hj => by rw [Nat.zero_add, List.getElem?_append_left (by rw [bv_length]; exact hj)]; exact bv_get xs j hj)

theorem part_cell {w : World} {g : Nat} {t : TypeId} {xs : List Int} {rest : List Value} (h : Row w g t (bv xs ++ rest).toArray) (i : Nat) (hi : i < xs.length) : w.cell? ⟨g, i, none⟩ = some (.int .u8 (xs.getD i 0)) := by
  rw [h.cell, List.getElem?_toArray, List.getElem?_append_left (by rw [bv_length]; exact hi)]
  exact bv_get xs i hi

theorem part_set {w : World} {g : Nat} {t : TypeId} {xs : List Int} {rest : List Value} (h : Row w g t (bv xs ++ rest).toArray) (i : Nat) (hi : i < xs.length) (z : Int) : Row (w.setCell ⟨g, i, none⟩ (.int .u8 z)) g t (bv (xs.set i z) ++ rest).toArray := by
  have h' := h.set i (.int .u8 z)
  rw [List.setIfInBounds_toArray, List.set_append_left _ _ (by rw [bv_length]; exact hi), bv_set] at h'
  exact h'

theorem byt_set {xs : List Int} {i : Nat} {z : Int} (h : Byt xs) (hz : 0 ≤ z ∧ z ≤ 255) : Byt (xs.set i z) := fun y hy => by
  rcases List.mem_or_eq_of_mem_set hy with h1 | rfl
  · exact h y h1
  · exact hz

/-- where the checksum is put, the checksum is 0 -/
theorem put_good (H P : List Int) (p : Nat) (hH : H.length % 2 = 0) (bH : Byt H) (bP : Byt P) (hp : p % 2 = 0) (hp1 : p + 1 < P.length) (z0 : P.getD p 0 = 0) (z1 : P.getD (p + 1) 0 = 0) (n : Int) (hn : ck (H ++ P) = n) :
    tot (H ++ (P.set p (n / 256)).set (p + 1) (n % 256)) ≠ 0 ∧ tot (H ++ (P.set p (n / 256)).set (p + 1) (n % 256)) % 65535 = 0 := by
  have w0 : wt p = 256 := by unfold wt; rw [if_pos hp]
  have w1 : wt (p + 1) = 1 := by unfold wt; rw [if_neg (by omega)]
  have z2 : (P.set p (n / 256)).getD (p + 1) 0 = 0 := by
    simp only [List.getD_eq_getElem?_getD] at z1 ⊢
    rw [List.getElem?_set_ne (by omega)]
    exact z1
  have hT : tot (H ++ (P.set p (n / 256)).set (p + 1) (n % 256)) = tot H + tot P + n := by
    rw [tot_even H _ hH, tot_set _ (p + 1) _ (by simp; omega), tot_set P p _ (by omega), z0, z2, w0, w1]
    omega
  have h1 := tot_nonneg H bH
  have h2 := tot_nonneg P bP
  have hc : n = 65535 - rd (tot H + tot P) := by rw [← hn, ck, tot_even H _ hH]
  rw [hT, hc]
  have hT0 : 0 ≤ tot H + tot P := by omega
  clear h1 h2 hT hc
  generalize tot H + tot P = T at *
  unfold rd
  split <;> omega
theorem good_ck (L : List Int) (b : Byt L) (h : tot L ≠ 0 ∧ tot L % 65535 = 0) : ck L = 0 := by
  have := (rd_full (tot L) (tot_nonneg L b)).2 h
  unfold ck
  omega
theorem turned_ck (L : List Int) (b : Byt L) (h : tot L % 65535 ≠ 0) : ck L ≠ 0 := by
  have := (rd_full (tot L) (tot_nonneg L b)).1
  unfold ck
  intro e
  exact h (this (by omega)).2
/-- one byte changed -/
theorem turned (H P : List Int) (i : Nat) (y : Int) (hH : H.length % 2 = 0) (hi : i < P.length) (bP : Byt P) (hy : 0 ≤ y ∧ y ≤ 255) (hne : y ≠ P.getD i 0) (h : tot (H ++ P) % 65535 = 0) : tot (H ++ P.set i y) % 65535 ≠ 0 := by
  have hx := bP.at_ i
  rw [tot_even H _ hH] at h ⊢
  rw [tot_set P i y hi]
  unfold wt
  split <;> omega

theorem turn_bit (x : Int) (j : Nat) (h0 : 0 ≤ x) (h1 : x ≤ 255) (hj : j < 8) : bits .xor .u8 x (IntKind.u8.wrap (2 ^ j)) ≠ x ∧ 0 ≤ bits .xor .u8 x (IntKind.u8.wrap (2 ^ j)) ∧ bits .xor .u8 x (IntKind.u8.wrap (2 ^ j)) ≤ 255 := by
  have h : ∀ (k : Fin 256) (j : Fin 8), bits .xor .u8 ((k.1 : Nat) : Int) (IntKind.u8.wrap (2 ^ j.1)) ≠ ((k.1 : Nat) : Int) ∧ 0 ≤ bits .xor .u8 ((k.1 : Nat) : Int) (IntKind.u8.wrap (2 ^ j.1)) ∧ bits .xor .u8 ((k.1 : Nat) : Int) (IntKind.u8.wrap (2 ^ j.1)) ≤ 255 := by decide +kernel
  obtain ⟨k, rfl⟩ := Int.eq_ofNat_of_zero_le h0
  exact h ⟨k, by omega⟩ ⟨j, hj⟩

set_option linter.unusedSimpArgs false in
set_option maxHeartbeats 4000000 in
theorem walk (s d : List Int) (nx : Int) (B : Option Addr) (m c : Nat) (zs : List Int) (a0 a1 : Nat) (w : World) (hs : s.length = 16) (hd : d.length = 16) (bs : Byt s) (bd : Byt d) (hnx : 0 ≤ nx ∧ nx ≤ 255) (hl : zs.length = m) (hm : m ≤ 3000) (hm2 : 2 ≤ m) (hS : Slc w (.slice B m c) zs) (hb : Byt zs) (ha0 : a0 ≤ 65535) (ha1 : a1 ≤ 65535) :
    Calls Try.prog 5 #[.agg (endsV s d nx).toArray, .slice B m c, .agg #[.int .u16 a0, .int .u16 a1]] w fun e w' => e = .returned (.bool true) ∧ Below w.heap.size w w' := by
  have HS := veil hs
  have HD := veil hd
  have BS := veil bs
  have BD := veil bd
  have HN := veil hnx
  have HL := veil hl
  have S1 := veil hS
  have Y1 := veil hb
  clear hs hd bs bd hnx hl hS hb
  go_enter Try.func5, Try.ntmps5
  have e0 := row_new (w := w) (cs := (endsV s d nx).toArray) (t := 33) rfl
  have q0 := below_new w (.cells (endsV s d nx).toArray 33)
  have f0 := row_new (w := w.alloc (.cells (endsV s d nx).toArray 33)) (cs := #[.int .u16 a0, .int .u16 a1]) (t := 37) (show w.heap.size + 1 = _ by simp)
  have q1 := below_new (w.alloc (.cells (endsV s d nx).toArray 33)) (.cells #[.int .u16 a0, .int .u16 a1] 37)
  have e1 := e0.keep q1
  have b1 := q0.trans (q1.mono q0.size)
  obtain ⟨w1, hw1⟩ : ∃ w1, (w.alloc (.cells (endsV s d nx).toArray 33)).alloc (.cells #[.int .u16 a0, .int .u16 a1] 37) = w1 := ⟨_, rfl⟩
  rw [hw1] at e1 f0 b1
  obtain ⟨v2, w2, H2, O2, G2, _⟩ := run_append_slc w1 w1.heap.size 22 (.slice none 0 0) (.slice B m c) [] zs (own_nil _ _) (S1.out.keep b1) (by rw [HL.out]; simp; omega) (Nat.le_refl _)
  rw [List.nil_append] at O2
  have q2 : Below w1.heap.size w1 w2 := own_below (own_nil w1 w1.heap.size) G2 (Below.refl _ _) (Nat.le_refl _)
  obtain ⟨g, cap, rest, rfl, hg, r2, hcap⟩ := own_row O2 (fun e => by have := HL.out; rw [e] at this; simp at this; omega)
  have e2 := e1.keep q2
  have f2 := f0.keep q2
  have b2 := b1.trans (q2.mono b1.size)
  have hg1 : w.heap.size < g := Nat.lt_of_lt_of_le e1.lt hg
  have hg2 : w.heap.size + 1 < g := Nat.lt_of_lt_of_le f0.lt hg
  rw [HL.out] at H2 hcap
  have HR2 := veil H2
  have c0 : w1.cell? ⟨w.heap.size + 1, 0, none⟩ = some (.int .u16 a0) := f0.cell 0
  clear H2 O2 G2 q0 q1 q2 e0 f0 e1 b1 hg
  have R2 := veil r2
  have E2 := veil e2
  have F2 := veil f2
  clear r2 e2 f2
  have hlt : a0 % (m / 2) < m / 2 := Nat.mod_lt _ (by omega)
  obtain ⟨p, hp⟩ : ∃ p, a0 % (m / 2) * 2 = p := ⟨_, rfl⟩
  have hat : wrap64 ((a0 : Int) % ((m : Int) / 2) * 2) = (p : Int) := by
    have e : (a0 : Int) % ((m : Int) / 2) * 2 = (p : Int) := by rw [← hp]; simp
    rw [e]
    unfold wrap64
    omega
  have hp1 : p + 1 < m := by omega
  have hpe : Hid (p % 2 = 0) := by simp only [Hid]; omega
  have c1 : w2.cell? ⟨g, p, none⟩ = some (.int .u8 (zs.getD p 0)) := part_cell R2.out p (by rw [HL.out]; omega)
  have f1 : w2.frozen? ⟨g, p, none⟩ = false := R2.out.frozen p
  have R3 := veil (part_set R2.out p (by rw [HL.out]; omega) 0)
  have L3 : Hid ((zs.set p 0).length = m) := by simp only [Hid, List.length_set]; exact HL.out
  have E3 := veil (E2.out.far (p := ⟨g, p, none⟩) (by simp; omega) (.int .u8 0))
  have F3 := veil (F2.out.far (p := ⟨g, p, none⟩) (by simp; omega) (.int .u8 0))
  have b3 := b2.setCell (p := ⟨g, p, none⟩) (by simp; omega) (.int .u8 0)
  have c2 : (w2.setCell ⟨g, p, none⟩ (.int .u8 0)).cell? ⟨g, p + 1, none⟩ = some (.int .u8 ((zs.set p 0).getD (p + 1) 0)) := part_cell R3.out (p + 1) (by rw [L3.out]; omega)
  have f2 : (w2.setCell ⟨g, p, none⟩ (.int .u8 0)).frozen? ⟨g, p + 1, none⟩ = false := R3.out.frozen (p + 1)
  have R4 := veil (part_set R3.out (p + 1) (by rw [L3.out]; omega) 0)
  have L4 : Hid (((zs.set p 0).set (p + 1) 0).length = m) := by simp only [Hid, List.length_set]; exact HL.out
  have E4 := veil (E3.out.far (p := ⟨g, p + 1, none⟩) (by simp; omega) (.int .u8 0))
  have F4 := veil (F3.out.far (p := ⟨g, p + 1, none⟩) (by simp; omega) (.int .u8 0))
  have b4 := b3.setCell (p := ⟨g, p + 1, none⟩) (by simp; omega) (.int .u8 0)
  have n4 := cell_next E4.out HS.out HD.out
  generalize zs.getD p 0 = o1 at c1
  generalize (zs.set p 0).getD (p + 1) 0 = o2 at c2
  clear R2 E2 F2 b2 R3 E3 F3 b3 hlt hp
  go_wp2_with (first
    | (at_builtin; refine wpList_append_run rfl (.const (.slice none 0 0)) (.tmp 28) rfl rfl rfl HR2.out ?_)
    | (refine wpList_load_of rfl _ rfl rfl (load_src E4.out HS.out) ?_)
    | (refine wpList_load_of rfl _ rfl rfl (load_dst E4.out HS.out HD.out) ?_))
  clear HR2 c0 c1 f1 c2 f2 hat n4
  generalize (w2.setCell ⟨g, p, none⟩ (.int .u8 0)).setCell ⟨g, p + 1, none⟩ (.int .u8 0) = w4 at *
  have Y4 : Hid (Byt ((zs.set p 0).set (p + 1) 0)) := byt_set (byt_set Y1.out (by omega)) (by omega)
  have Z4 : Hid (((zs.set p 0).set (p + 1) 0).getD p 0 = 0 ∧ ((zs.set p 0).set (p + 1) 0).getD (p + 1) 0 = 0) := by
    have := HL.out
    constructor
    · simp [List.getD, List.getElem?_set, show p < zs.length by omega]
    · simp [List.getD, List.getElem?_set, show p + 1 < zs.length by omega]
  generalize (zs.set p 0).set (p + 1) 0 = P1 at *
  clear L3 Y1 hw1
  refine (over_any s d nx _ m cap P1 w4 HS.out HD.out BS.out BD.out HN.out L4.out (by omega) (.inr ⟨_, cap, by rw [L4.out], row_part R4.out, by rw [L4.out]; omega⟩) Y4.out).mono ?_
  rintro e w5 ⟨rfl, q5⟩
  have b5 := b4.trans (q5.mono b4.size)
  have E5 := veil (E4.out.keep q5)
  have F5 := veil (F4.out.keep q5)
  have R5 := veil (R4.out.keep q5)
  have hn := ck_bound (ph s d m nx ++ P1)
  obtain ⟨n, hnd⟩ : ∃ n, ck (ph s d m nx ++ P1) = n := ⟨_, rfl⟩
  rw [hnd] at hn ⊢
  have HV := veil hnd
  clear hnd q5 b4 E4 F4 R4
  have c1 : w5.cell? ⟨g, p, none⟩ = some (.int .u8 0) := by rw [part_cell R5.out p (by rw [L4.out]; omega), Z4.out.1]
  have f1 : w5.frozen? ⟨g, p, none⟩ = false := R5.out.frozen p
  have R6 := veil (part_set R5.out p (by rw [L4.out]; omega) (n / 256))
  have L6 : Hid ((P1.set p (n / 256)).length = m) := by simp only [Hid, List.length_set]; exact L4.out
  have E6 := veil (E5.out.far (p := ⟨g, p, none⟩) (by simp; omega) (.int .u8 (n / 256)))
  have F6 := veil (F5.out.far (p := ⟨g, p, none⟩) (by simp; omega) (.int .u8 (n / 256)))
  have b6 := b5.setCell (p := ⟨g, p, none⟩) (by simp; omega) (.int .u8 (n / 256))
  have Z6 : Hid ((P1.set p (n / 256)).getD (p + 1) 0 = 0) := by
    have := Z4.out.2
    simp only [Hid, List.getD_eq_getElem?_getD] at this ⊢
    rw [List.getElem?_set_ne (by omega)]
    exact this
  have c2 : (w5.setCell ⟨g, p, none⟩ (.int .u8 (n / 256))).cell? ⟨g, p + 1, none⟩ = some (.int .u8 0) := by rw [part_cell R6.out (p + 1) (by rw [L6.out]; omega), Z6.out]
  have f2 : (w5.setCell ⟨g, p, none⟩ (.int .u8 (n / 256))).frozen? ⟨g, p + 1, none⟩ = false := R6.out.frozen (p + 1)
  have R7 := veil (part_set R6.out (p + 1) (by rw [L6.out]; omega) (n % 256))
  have L7 : Hid (((P1.set p (n / 256)).set (p + 1) (n % 256)).length = m) := by simp only [Hid, List.length_set]; exact L4.out
  have E7 := veil (E6.out.far (p := ⟨g, p + 1, none⟩) (by simp; omega) (.int .u8 (n % 256)))
  have F7 := veil (F6.out.far (p := ⟨g, p + 1, none⟩) (by simp; omega) (.int .u8 (n % 256)))
  have b7 := b6.setCell (p := ⟨g, p + 1, none⟩) (by simp; omega) (.int .u8 (n % 256))
  have n7 := cell_next E7.out HS.out HD.out
  clear E6 F6 b6 R6 E5 F5 b5 R5
  go_wp2_with (first
    | (refine wpList_load_of rfl _ rfl rfl (load_src E7.out HS.out) ?_)
    | (refine wpList_load_of rfl _ rfl rfl (load_dst E7.out HS.out HD.out) ?_))
  clear c1 f1 c2 f2 n7 Z6 L6
  generalize (w5.setCell ⟨g, p, none⟩ (.int .u8 (n / 256))).setCell ⟨g, p + 1, none⟩ (.int .u8 (n % 256)) = w7 at *
  have hP := put_good (ph s d m nx) P1 p (by rw [ph_length s d m nx HS.out HD.out]) (ph_byt BS.out BD.out HN.out) Y4.out hpe.out (by rw [L4.out]; omega) Z4.out.1 Z4.out.2 n HV.out
  have Y7 : Hid (Byt ((P1.set p (n / 256)).set (p + 1) (n % 256))) := byt_set (byt_set Y4.out (by omega)) (by omega)
  have HP := veil hP
  clear hP L4 Y4 Z4 HV
  generalize (P1.set p (n / 256)).set (p + 1) (n % 256) = P2 at *
  have g7 : ck (ph s d m nx ++ P2) = 0 := good_ck _ (byt_append (ph_byt BS.out BD.out HN.out) Y7.out) HP.out
  have K7 := good_any s d nx _ m cap P2 w7 HS.out HD.out BS.out BD.out HN.out L7.out (by omega) (.inr ⟨_, cap, by rw [L7.out], row_part R7.out, by rw [L7.out]; omega⟩) Y7.out
  rw [g7] at K7
  refine K7.mono ?_
  clear K7 g7
  rintro e w8 ⟨rfl, q8⟩
  have b8 := b7.trans (q8.mono b7.size)
  have E8 := veil (E7.out.keep q8)
  have F8 := veil (F7.out.keep q8)
  have R8 := veil (R7.out.keep q8)
  have c8 : w8.cell? ⟨w.heap.size + 1, 1, none⟩ = some (.int .u16 a1) := F8.out.cell 1
  clear q8 b7 E7 F7 R7
  have hql : a1 % (8 * m) < 8 * m := Nat.mod_lt _ (by omega)
  obtain ⟨q, hq⟩ : ∃ q, a1 % (8 * m) = q := ⟨_, rfl⟩
  have hbit : (a1 : Int) % (8 * (m : Int)) = (q : Int) := by rw [← hq]; simp
  rw [hq] at hql
  clear hq
  go_wp2_with fail
  rw [hbit]
  clear c8 hbit
  obtain ⟨i, hi⟩ : ∃ i, q / 8 = i := ⟨_, rfl⟩
  obtain ⟨j, hj⟩ : ∃ j, q % 8 = j := ⟨_, rfl⟩
  have hq1 : (q : Int) / 8 = (i : Int) := by omega
  have hq2 : (q : Int) % 8 = (j : Int) := by omega
  have him : i < m := by omega
  have hj8 : j < 8 := by omega
  have c8 : w8.cell? ⟨g, i, none⟩ = some (.int .u8 (P2.getD i 0)) := part_cell R8.out i (by rw [L7.out]; omega)
  have hx := Y7.out.at_ i
  obtain ⟨x, hx8⟩ : ∃ x, P2.getD i 0 = x := ⟨_, rfl⟩
  rw [hx8] at c8 hx
  have HX := veil hx8
  clear hi hj hx8
  have hwi : IntKind.i64.wrap (i : Int) = i := by simp [IntKind.wrap, IntKind.signed, IntKind.bits]; omega
  have hwj : IntKind.i64.wrap (j : Int) = j := by simp [IntKind.wrap, IntKind.signed, IntKind.bits]; omega
  have hq3 : (q : Int).tmod 8 = (j : Int) := by rw [Int.tmod_eq_emod_of_nonneg (by omega)]; exact hq2
  go_still_tail 13, (by kernel_rfl)
  change wpList _ _ _ _ _ w8.drew
  have hyb := turn_bit x j hx.1 hx.2 hj8
  obtain ⟨y, hy⟩ : ∃ y, bits .xor .u8 x (IntKind.u8.wrap (2 ^ j)) = y := ⟨_, rfl⟩
  rw [hy] at hyb ⊢
  have E9 := veil (still_row E8.out)
  have R9 := veil (still_row R8.out)
  have b9 := still_below b8
  have c9 : w8.drew.cell? ⟨g, i, none⟩ = some (.int .u8 x) := c8
  clear E8 R8 b8 c8 F8 hq1 hq2 hq3 hwi hwj hy
  generalize w8.drew = w9 at *
  have f9 : w9.frozen? ⟨g, i, none⟩ = false := R9.out.frozen i
  have R10 := veil (part_set R9.out i (by rw [L7.out]; omega) y)
  have L10 : Hid ((P2.set i y).length = m) := by simp only [Hid, List.length_set]; exact L7.out
  have Y10 : Hid (Byt (P2.set i y)) := byt_set Y7.out hyb.2
  have E10 := veil (E9.out.far (p := ⟨g, i, none⟩) (by simp; omega) (.int .u8 y))
  have b10 := b9.setCell (p := ⟨g, i, none⟩) (by simp; omega) (.int .u8 y)
  have n10 := cell_next E10.out HS.out HD.out
  have g10 : ck (ph s d m nx ++ P2.set i y) ≠ 0 := turned_ck _ (byt_append (ph_byt BS.out BD.out HN.out) Y10.out) (turned _ P2 i y (by rw [ph_length s d m nx HS.out HD.out]) (by rw [L7.out]; omega) Y7.out hyb.2 (by rw [HX.out]; exact hyb.1) HP.out.2)
  have K10 := good_any s d nx _ m cap (P2.set i y) (w9.setCell ⟨g, i, none⟩ (.int .u8 y)) HS.out HD.out BS.out BD.out HN.out L10.out (by omega) (.inr ⟨_, cap, by rw [L10.out], row_part R10.out, by rw [L10.out]; omega⟩) Y10.out
  rw [show (ck (ph s d m nx ++ P2.set i y) == 0) = false by simpa using g10] at K10
  have HK := veil K10
  clear K10 g10 E9 b9 R9 HP HX hyb
  go_wp2_with (first
    | (refine wpList_load_of rfl _ rfl rfl (load_src E10.out HS.out) ?_)
    | (refine wpList_load_of rfl _ rfl rfl (load_dst E10.out HS.out HD.out) ?_))
  refine (HK.out).mono ?_
  rintro e w11 ⟨rfl, q11⟩
  have b11 := b10.trans (q11.mono b10.size)
  clear HK q11 b10 E10 R10 n10 c9 f9
  go_wp2_with fail
  refine (lives_true _).mono ?_
  rintro e w12 ⟨rfl, q12⟩
  have b12 := b11.trans (q12.mono b11.size)
  clear q12 b11
  go_wp2_with fail
  go_ret
  exact ⟨rfl, b12⟩

/-- fewer, or more, than are gone through -/
theorem walk_more (s d : List Int) (nx : Int) (B : Option Addr) (m c : Nat) (a0 a1 : Nat) (w : World) (h : 3000 < m ∨ m < 2) :
    Calls Try.prog 5 #[.agg (endsV s d nx).toArray, .slice B m c, .agg #[.int .u16 a0, .int .u16 a1]] w fun e w' => e = .returned (.bool true) ∧ Below w.heap.size w w' := by
  have q0 := below_new w (.cells (endsV s d nx).toArray 33)
  have q1 := below_new (w.alloc (.cells (endsV s d nx).toArray 33)) (.cells #[.int .u16 a0, .int .u16 a1] 37)
  have b1 := veil (q0.trans (q1.mono q0.size))
  clear q0 q1
  by_cases h1 : 3000 < m
  · go_enter Try.func5, Try.ntmps5
    go_wp2_with fail
    refine (lives_true _).mono ?_
    rintro e w6 ⟨rfl, q6⟩
    have b6 := b1.out.trans (q6.mono b1.out.size)
    clear q6 b1
    go_wp2_with fail
    go_ret
    exact ⟨rfl, b6⟩
  · have h2 : m < 2 := by omega
    go_enter Try.func5, Try.ntmps5
    go_wp2_with fail
    refine (lives_true _).mono ?_
    rintro e w6 ⟨rfl, q6⟩
    have b6 := b1.out.trans (q6.mono b1.out.size)
    clear q6 b1
    go_wp2_with fail
    go_ret
    exact ⟨rfl, b6⟩

theorem cellsU16 : Try.prog.cellsOf 25 = 1 := by kernel_rfl
theorem cellsTwo : Try.prog.cellsOf 37 = 2 := by kernel_rfl
theorem u16_of {n : Int} (h : (Lit.int .u16 n).wf = true) : 0 ≤ n ∧ n ≤ 65535 := by simpa [Lit.wf, IntKind.min, IntKind.max, IntKind.signed, IntKind.bits] using h
/-- an argument that is two numbers of 16 bits -/
theorem open_two {H : Type} {enc : TypeId × Value → H} {W : World} {base : Nat} {sp : Nat → Bool} {held : Bool} {v : Value} {d : DataW H} {p : List MemPlace} {r : Reach} {b0 : Nat}
    (hv : Value.okWide Try.prog W r b0 37 v) (h : DataW.Trod enc Try.prog W base sp held 37 v d p) : ∃ a0 a1 : Nat, v = .agg #[.int .u16 a0, .int .u16 a1] ∧ a0 ≤ 65535 ∧ a1 ≤ 65535 := by
  obtain ⟨cs, rfl, hsz⟩ := okWide_array' Try.underlying37 hv
  obtain ⟨fuel, hf⟩ := h
  obtain ⟨zs, hz, hl, hw⟩ := ints_of_array Try.underlying37 Try.underlying25 cellsU16 cellsTwo hf
  match zs, hl with
  | [x, y], _ =>
    have hx := u16_of (hw x (by simp))
    have hy := u16_of (hw y (by simp))
    obtain ⟨a, rfl⟩ := Int.eq_ofNat_of_zero_le hx.1
    obtain ⟨b, rfl⟩ := Int.eq_ofNat_of_zero_le hy.1
    refine ⟨a, b, ?_, by omega, by omega⟩
    congr 1
    apply Array.toList_inj.1
    exact hz

theorem own : ownKnob Try.prog.godebug = none := by kernel_rfl
theorem readable : ∀ t ∈ Try.f5.params.toList, Try.prog.readableRec t = true ∧ t < Try.prog.types.size := by
  rw [Try.params5]
  intro t ht
  simp at ht
  rcases ht with rfl | rfl | rfl
  · exact ⟨by kernel_rfl, of_decide_eq_true (by kernel_rfl)⟩
  · exact ⟨by kernel_rfl, of_decide_eq_true (by kernel_rfl)⟩
  · exact ⟨by kernel_rfl, of_decide_eq_true (by kernel_rfl)⟩

set_option maxRecDepth 100000 in
theorem lifted (os : Os) (started : os.Started) (H : Type) (enc : TypeId × Value → H) :
    ReturnsInHanded {} Try.checked os 5 .any (Rows.sumsGoodSpec.pre6 enc Try.prog Try.f5 Rows.sumsGoodRow.domain false) (Rows.sumsGoodSpec.post enc Try.prog Try.f5 false true false false) := by
  refine returnsInHanded_of_change (C := Try.checked) own started (by kernel_rfl) Try.func5
    (ChangeSpec.witness6 (enc := enc) (C := Try.checked) false ⟨#[], #[.agg #[.int .u8 0, .int .u8 0, .int .u8 0, .int .u8 0, .int .u8 0, .int .u8 0, .int .u8 0, .int .u8 0, .int .u8 0, .int .u8 0, .int .u8 0, .int .u8 0, .int .u8 0, .int .u8 0, .int .u8 0, .int .u8 0, .int .u8 0, .int .u8 0, .int .u8 0, .int .u8 0, .int .u8 0, .int .u8 0, .int .u8 0, .int .u8 0, .int .u8 0, .int .u8 0, .int .u8 0, .int .u8 0, .int .u8 0, .int .u8 0, .int .u8 0, .int .u8 0, .int .u8 0], .slice none 0 0, .agg #[.int .u16 0, .int .u16 0]], []⟩ 8 (by kernel_rfl) (by kernel_rfl) (by kernel_rfl) (by kernel_rfl)) ?_
  intro W base args ds gs before hval0 hW _ _
  have hval : ∀ (j : Nat) t v, Try.f5.params[j]? = some t → args[j]? = some v → Value.okWide Try.prog W .any base t v := hval0
  have hW' := hW
  obtain ⟨p, q, hA0, hV, rfl, _, _⟩ := hW
  have hA : DataW.TrodAll enc Try.prog W 0 (fun _ => true) true Try.f5.params.toList args.toList ds p := hA0
  rw [Try.params5] at hA hval
  obtain ⟨v0, vs0, d0, ds0, p0, q0, hargs, rfl, rfl, h0, r0⟩ := trodAll_cons hA
  obtain ⟨v1, vs1, d1, ds1, p1, q1, rfl, rfl, rfl, h1, r1⟩ := trodAll_cons r0
  obtain ⟨v2, vs2, d2, ds2, p2, q2, rfl, rfl, rfl, h2, r2⟩ := trodAll_cons r1
  obtain ⟨rfl, rfl, rfl⟩ := trodAll_nil r2
  obtain rfl : args = #[v0, v1, v2] := by cases args; simp_all
  obtain ⟨rfl, rfl⟩ := trodVars_none hV
  obtain ⟨xs, ys, nx, rfl, hx, hy, bx, by', hn1, hn2⟩ := open_ends (hval 0 33 v0 rfl rfl) h0
  obtain ⟨B, m, c, zs, rfl, hS, hz, hY⟩ := open_bytes (hval 1 22 v1 rfl rfl) h1
  obtain ⟨a0, a1, rfl, ha0, ha1⟩ := open_two (hval 2 37 v2 rfl rfl) h2
  have hw : Calls Try.prog 5 #[.agg (endsV xs ys nx).toArray, .slice B m c, .agg #[.int .u16 a0, .int .u16 a1]] W fun e w' => e = .returned (.bool true) ∧ Below W.heap.size W w' := by
    by_cases hs : m ≤ 3000 ∧ 2 ≤ m
    · exact walk xs ys nx B m c zs a0 a1 W hx hy bx by' ⟨hn1, hn2⟩ hz hs.1 hs.2 hS hY ha0 ha1
    · exact walk_more xs ys nx B m c a0 a1 W (by omega)
  refine hw.mono fun e W' ⟨he, hb⟩ => ?_
  subst he
  exact ⟨_, rfl, law_post (by kernel_rfl) rfl rfl Try.underlying4 readable hW' rfl hb⟩

/-- SumsGood, as given -/
theorem holds : Rows.SumsGoodSaid :=
  OpenClaim.holds_of_wide 5 Try.f5 rfl rfl rfl rfl rfl rfl rfl ⟨rfl, rfl, rfl, rfl, rfl⟩ rfl rfl rfl rfl rfl (by kernel_rfl) Try.func5 (by kernel_rfl)
    (of_decide_eq_true (by kernel_rfl)) (by unfold Func.isWrapper; first | (rw [if_pos (by decide +kernel)]; kernel_rfl) | (rw [if_neg (by decide +kernel)]; exact ⟨rfl, rfl⟩))
    (fun os started H enc _ => lifted os started H enc)

#print axioms holds
end Go.Proofs.Ytoadligcfecpfaa.sumsGood
