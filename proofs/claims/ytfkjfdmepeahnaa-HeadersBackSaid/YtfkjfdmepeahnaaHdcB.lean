/-
  A header that tells its length, by the code: what follows it, and its bytes; or that it is cut short.
  Conditions: none.
-/
import Derived.Test.YtfkjfdmepeahnaaHdcA
import Derived.OwnWalk
namespace Go.Proofs.Ytfkjfdmepeahnaa.Hd
set_option maxRecDepth 100000
open Go.RowKit Ops

/-- what is left of zs: r bytes from place o on -/
abbrev lef (zs : List Int) (o r : Nat) : List Int := (zs.drop o).take r
theorem lef_none (zs : List Int) (o : Nat) : lef zs o 0 = [] := List.take_zero
theorem lef_len {zs : List Int} {o r : Nat} (h : o + r ≤ zs.length) : (lef zs o r).length = r := len_drop h
theorem lef_cut {zs : List Int} {o r k o' : Nat} (h : o + r ≤ zs.length) (hk : k ≤ r) (ho : (if r = k then o else o + k) = o') : lef zs o' (r - k) = (lef zs o r).drop k ∧ o' + (r - k) ≤ zs.length := by
  subst ho
  split
  · rename_i e
    subst e
    refine ⟨?_, by omega⟩
    rw [Nat.sub_self, lef_none, List.drop_of_length_le (by rw [lef_len h]; omega)]
  · refine ⟨?_, by omega⟩
    rw [lef, lef, List.drop_take, List.drop_drop]
theorem num_one {l : List Int} (h : 1 ≤ l.length) : num (l.take 1) = l.getD 0 0 := by
  have := num_next l 0 (by omega)
  simpa [num] using this
theorem lef_one {zs : List Int} {o r : Nat} (h : o + r ≤ zs.length) (hr : 1 ≤ r) : num ((zs.drop o).take 1) = (lef zs o r).getD 0 0 := by
  rw [← num_one (by rw [lef_len h]; exact hr), lef, List.take_take, Nat.min_eq_left hr]
theorem hdr_four (zs : List Int) : hdr zs 4 = hdr zs 2 := by unfold hdr; split <;> split <;> omega
theorem hdr_get {zs : List Int} {H : Nat} (h : hdr zs 2 = H) (h0 : H ≠ 0) : 8 * ((zs.getD 1 0).toNat + 1) = H ∧ H ≤ zs.length := by
  unfold hdr at h
  split at h <;> omega
theorem hdr_not {zs : List Int} (h : hdr zs 2 = 0) (h2 : 2 ≤ zs.length) : zs.length < 8 * ((zs.getD 1 0).toNat + 1) := by
  unfold hdr at h
  split at h <;> omega

/-- the walk, its cutter, the bytes -/
abbrev L3 (g c b : Nat) (s : St) (cu : List Value) (zs : List Int) : List Blk := [(g, 84, wc c s), (c, 100, cu), (b, 5, bv zs)]

section
variable {P : Nat → Prop} {w0 w : World} {g c b o r : Nat} {s : St} {zs : List Int}

set_option maxHeartbeats 2000000 in
theorem cut_yes (h : LayF P w0 w (L3 g c b s (ct b o r) zs)) (hz : Byt zs) (hr : o + r ≤ zs.length) (H : Nat) (hH : hdr (lef zs o r) 2 = H) (h0 : H ≠ 0) :
    Calls Try.prog 59 #[.pointer (some ⟨g, 0, none⟩)] w fun e w' => ∃ o', e = .returned (.tuple #[.int .u8 ((lef zs o r).getD 0 0), .slice (some ⟨b, o + 2, none⟩) (H - 2) (H - 2), .bool true]) ∧
      LayF P w0 w' (L3 g c b s (ct b o' (r - H)) zs) ∧ w'.heap.size = w.heap.size ∧ lef zs o' (r - H) = (lef zs o r).drop H ∧ o' + (r - H) ≤ zs.length := by
  obtain ⟨hy, hHr⟩ := hdr_get hH h0
  rw [lef_len hr] at hHr
  have h8 : 8 ≤ H := by rw [← hH]; exact hdr_eight (by omega)
  have hbc : b ≠ c := h.ne (i := 1) (j := 2) rfl rfl (by omega)
  have c0 : w.cell? ⟨g, 0, none⟩ = some (.pointer (some ⟨c, 0, none⟩)) := h.look mem0 rfl
  have hx := ((hz.drop o).take r).at_ 0
  have hyb := ((hz.drop o).take r).at_ 1
  have e1 : o + 1 = (if r = 1 then o else o + 1) := by rw [if_neg (by omega)]
  have l1 := lef_cut hr (by omega) e1.symm
  have n1 := lef_one hr (by omega : 1 ≤ r)
  have n2 := lef_one l1.2 (by omega : 1 ≤ r - 1)
  rw [l1.1] at n2
  have n3 : ((lef zs o r).drop 1).getD 0 0 = (lef zs o r).getD 1 0 := by simp [List.getD]
  rw [n3] at n2
  have K1 := h.num (i := 1) rfl mem2 hbc hz hr 1 (by omega) (by omega) (by omega) (o + 1) e1.symm
  simp only [List.set_cons_zero, List.set_cons_succ, n1] at K1
  have VK1 := veil K1
  have e3 : (if r - 1 - 1 = H - 2 then o + 2 else o + 2 + (H - 2)) = (if r = H then o + 2 else o + H) := by split <;> split <;> omega
  obtain ⟨o', ho'⟩ : ∃ o', (if r = H then o + 2 else o + H) = o' := ⟨_, rfl⟩
  have l3 : lef zs o' (r - H) = (lef zs o r).drop H ∧ o' + (r - H) ≤ zs.length := by
    subst ho'
    split
    · rename_i e
      subst e
      refine ⟨?_, by omega⟩
      rw [Nat.sub_self, lef_none, List.drop_of_length_le (by rw [lef_len hr]; omega)]
    · refine ⟨?_, by omega⟩
      rw [lef, lef, List.drop_take, List.drop_drop]
  have L3' := veil l3
  have n2' := veil n2
  have VB := veil hbc
  have VZ := veil hz
  have VR := veil l1.2
  generalize hX : (lef zs o r).getD 0 0 = x at *
  generalize hY : (lef zs o r).getD 1 0 = y at *
  have hwx : IntKind.u8.wrap x = x := by rw [IntKind.wrap_u8]; omega
  have hwy : IntKind.i64.wrap y = y := by rw [IntKind.wrap_i64]; omega
  have hw1 : IntKind.i64.wrap (y + 1) = y + 1 := by rw [IntKind.wrap_i64]; omega
  have hw8 : IntKind.i64.wrap (8 * (y + 1)) = 8 * (y + 1) := by rw [IntKind.wrap_i64]; omega
  have hw2 : IntKind.i64.wrap (8 * (y + 1) - 2) = ((H - 2 : Nat) : Int) := by rw [IntKind.wrap_i64]; omega
  clear h hz hr hH hy l1 n1 n2 n3 K1 l3 hbc e1 hX hY
  go_enter Try.func59, Try.ntmps59
  go_wp2_with fail
  refine (VK1.out).mono ?_
  rintro e w1 ⟨rfl, Y1, s1⟩
  have d0 : w1.cell? ⟨g, 0, none⟩ = some (.pointer (some ⟨c, 0, none⟩)) := Y1.look mem0 rfl
  have K2 := Y1.num (i := 1) rfl mem2 VB.out VZ.out VR.out 1 (by omega) (by omega) (by omega) (o + 2) (by rw [if_neg (by omega)])
  simp only [List.set_cons_zero, List.set_cons_succ, n2'.out] at K2
  replace K2 := veil K2
  clear Y1 VK1 c0
  go_wp2_with fail
  refine (K2.out).mono ?_
  rintro e w2 ⟨rfl, Y2, s2⟩
  have d1 : w2.cell? ⟨g, 0, none⟩ = some (.pointer (some ⟨c, 0, none⟩)) := Y2.look mem0 rfl
  have K3 := Y2.bytes (i := 1) rfl (H - 2) (by omega) o' (e3.trans ho')
  simp only [List.set_cons_zero, List.set_cons_succ] at K3
  replace K3 := veil K3
  clear Y2 K2 d0
  go_wp2_with fail
  refine (K3.out).mono ?_
  rintro e w3 ⟨rfl, Y3, s3⟩
  have d2 : w3.cell? ⟨g, 0, none⟩ = some (.pointer (some ⟨c, 0, none⟩)) := Y3.look mem0 rfl
  have K4 := veil (Y3.bad mem1)
  have er : r - 1 - 1 - (H - 2) = r - H := by omega
  rw [er] at Y3
  have VY := veil Y3
  clear Y3 K3 d1
  go_wp2_with fail
  refine (K4.out).mono ?_
  rintro e w4 ⟨rfl, rfl⟩
  clear K4
  go_wp2_with fail
  go_ret3
  exact ⟨o', rfl, VY.out, by omega, L3'.out⟩

set_option maxHeartbeats 2000000 in
theorem cut_no (h : LayF P w0 w (L3 g c b s (ct b o r) zs)) (hz : Byt zs) (hr : o + r ≤ zs.length) (hH : hdr (lef zs o r) 2 = 0) :
    Calls Try.prog 59 #[.pointer (some ⟨g, 0, none⟩)] w fun e w' => ∃ f, e = .returned (.tuple #[.int .u8 f, .slice none 0 0, .bool false]) ∧ LayF P w0 w' (L3 g c b s ctBad zs) ∧ w'.heap.size = w.heap.size := by
  have hbc : b ≠ c := h.ne (i := 1) (j := 2) rfl rfl (by omega)
  have c0 : w.cell? ⟨g, 0, none⟩ = some (.pointer (some ⟨c, 0, none⟩)) := h.look mem0 rfl
  have hx := ((hz.drop o).take r).at_ 0
  have hyb := ((hz.drop o).take r).at_ 1
  have hw0 : IntKind.u8.wrap 0 = 0 := by rw [IntKind.wrap_u8]; omega
  rcases (by omega : r = 0 ∨ r = 1 ∨ 2 ≤ r) with hr0 | hr1 | hr2
  · subst hr0
    have K1 := h.numOver (i := 1) rfl 1 (by omega)
    simp only [List.set_cons_zero, List.set_cons_succ] at K1
    have VK1 := veil K1
    clear K1 h hz hr hH hx hyb hbc
    go_enter Try.func59, Try.ntmps59
    go_wp2_with fail
    refine (VK1.out).mono ?_
    rintro e w1 ⟨rfl, Y1, s1⟩
    have d0 : w1.cell? ⟨g, 0, none⟩ = some (.pointer (some ⟨c, 0, none⟩)) := Y1.look mem0 rfl
    have K2 := veil (Y1.numBad mem1 1)
    have K3 := veil (Y1.bytesBad mem1 6)
    have K4 := veil (Y1.badBad mem1)
    have VY := veil Y1
    clear Y1 VK1 c0
    go_wp2_with fail
    refine (K2.out).mono ?_
    rintro e w2 ⟨rfl, rfl⟩
    go_wp2_with fail
    refine (K3.out).mono ?_
    rintro e w2 ⟨rfl, rfl⟩
    go_wp2_with fail
    refine (K4.out).mono ?_
    rintro e w2 ⟨rfl, rfl⟩
    go_wp2_with fail
    go_ret3
    exact ⟨_, rfl, VY.out, s1⟩
  · subst hr1
    have K1 := h.num (i := 1) rfl mem2 hbc hz hr 1 (by omega) (by omega) (by omega) o (by rw [if_pos rfl])
    simp only [List.set_cons_zero, List.set_cons_succ, lef_one hr (Nat.le_refl 1)] at K1
    have VK1 := veil K1
    generalize hX : (lef zs o 1).getD 0 0 = x at *
    have hwx : IntKind.u8.wrap x = x := by rw [IntKind.wrap_u8]; omega
    clear K1 h hz hr hH hyb hbc hX
    go_enter Try.func59, Try.ntmps59
    go_wp2_with fail
    refine (VK1.out).mono ?_
    rintro e w1 ⟨rfl, Y0, s1⟩
    have d0 : w1.cell? ⟨g, 0, none⟩ = some (.pointer (some ⟨c, 0, none⟩)) := Y0.look mem0 rfl
    have K2 := Y0.numOver (i := 1) rfl 1 (by omega)
    simp only [List.set_cons_zero, List.set_cons_succ] at K2
    replace K2 := veil K2
    clear Y0 VK1 c0
    go_wp2_with fail
    refine (K2.out).mono ?_
    rintro e w2 ⟨rfl, Y1, s2⟩
    have d1 : w2.cell? ⟨g, 0, none⟩ = some (.pointer (some ⟨c, 0, none⟩)) := Y1.look mem0 rfl
    have K3 := veil (Y1.bytesBad mem1 6)
    have K4 := veil (Y1.badBad mem1)
    have VY := veil Y1
    clear Y1 K2 d0
    go_wp2_with fail
    refine (K3.out).mono ?_
    rintro e w3 ⟨rfl, rfl⟩
    go_wp2_with fail
    refine (K4.out).mono ?_
    rintro e w3 ⟨rfl, rfl⟩
    go_wp2_with fail
    go_ret3
    exact ⟨_, rfl, VY.out, by omega⟩
  · have hno := hdr_not hH (by rw [lef_len hr]; exact hr2)
    rw [lef_len hr] at hno
    have e1 : o + 1 = (if r = 1 then o else o + 1) := by rw [if_neg (by omega)]
    have l1 := lef_cut hr (by omega) e1.symm
    have n1 := lef_one hr (by omega : 1 ≤ r)
    have n2 := lef_one l1.2 (by omega : 1 ≤ r - 1)
    rw [l1.1] at n2
    have n3 : ((lef zs o r).drop 1).getD 0 0 = (lef zs o r).getD 1 0 := by simp [List.getD]
    rw [n3] at n2
    have K1 := h.num (i := 1) rfl mem2 hbc hz hr 1 (by omega) (by omega) (by omega) (o + 1) e1.symm
    simp only [List.set_cons_zero, List.set_cons_succ, n1] at K1
    have VK1 := veil K1
    have n2' := veil n2
    have VB := veil hbc
    have VZ := veil hz
    have VR := veil l1.2
    generalize hX : (lef zs o r).getD 0 0 = x at *
    generalize hY : (lef zs o r).getD 1 0 = y at *
    have hwx : IntKind.u8.wrap x = x := by rw [IntKind.wrap_u8]; omega
    have hwy : IntKind.i64.wrap y = y := by rw [IntKind.wrap_i64]; omega
    have hw1 : IntKind.i64.wrap (y + 1) = y + 1 := by rw [IntKind.wrap_i64]; omega
    have hw8 : IntKind.i64.wrap (8 * (y + 1)) = 8 * (y + 1) := by rw [IntKind.wrap_i64]; omega
    have hw2 : IntKind.i64.wrap (8 * (y + 1) - 2) = 8 * (y + 1) - 2 := by rw [IntKind.wrap_i64]; omega
    obtain ⟨o2, ho2⟩ : ∃ o2, (if r - 1 = 1 then o + 1 else o + 1 + 1) = o2 := ⟨_, rfl⟩
    clear h hz hr hH l1 n1 n2 n3 K1 hbc e1 hX hY
    go_enter Try.func59, Try.ntmps59
    go_wp2_with fail
    refine (VK1.out).mono ?_
    rintro e w1 ⟨rfl, Y1, s1⟩
    have d0 : w1.cell? ⟨g, 0, none⟩ = some (.pointer (some ⟨c, 0, none⟩)) := Y1.look mem0 rfl
    have K2 := Y1.num (i := 1) rfl mem2 VB.out VZ.out VR.out 1 (by omega) (by omega) (by omega) o2 ho2
    simp only [List.set_cons_zero, List.set_cons_succ, n2'.out] at K2
    replace K2 := veil K2
    clear Y1 VK1 c0
    go_wp2_with fail
    refine (K2.out).mono ?_
    rintro e w2 ⟨rfl, Y2, s2⟩
    have d1 : w2.cell? ⟨g, 0, none⟩ = some (.pointer (some ⟨c, 0, none⟩)) := Y2.look mem0 rfl
    have K3 := Y2.bytesOver (i := 1) rfl (8 * (y + 1) - 2) (by omega)
    simp only [List.set_cons_zero, List.set_cons_succ] at K3
    replace K3 := veil K3
    clear Y2 K2 d0
    go_wp2_with fail
    refine (K3.out).mono ?_
    rintro e w3 ⟨rfl, Y3, s3⟩
    have d2 : w3.cell? ⟨g, 0, none⟩ = some (.pointer (some ⟨c, 0, none⟩)) := Y3.look mem0 rfl
    have K4 := veil (Y3.badBad mem1)
    have VY := veil Y3
    clear Y3 K3 d1
    go_wp2_with fail
    refine (K4.out).mono ?_
    rintro e w4 ⟨rfl, rfl⟩
    clear K4
    go_wp2_with fail
    go_ret3
    exact ⟨_, rfl, VY.out, by omega⟩
end

end Go.Proofs.Ytfkjfdmepeahnaa.Hd
