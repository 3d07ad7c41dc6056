/-
  What the reference's Next answers.
  Conditions: at most 256 timers.
-/
import Derived.Test.YtkjgmimfnmilfaaTmrI
namespace Go.Proofs.Ytkjgmimfnmilfaa.Tm5
open Go.RowKit Go.Proofs.Ytkjgmimfnmilfaa.Ops

theorem rnext_none {w : World} {r : Nat} {A : Option Addr} {c : Nat} (h : Rf w r A 0 c []) : Calls Try.prog 22 #[.pointer (some ⟨r, 0, none⟩)] w fun e w' => e = .returned (.tuple #[.agg #[.int .u8 0, .int .u64 0], .int .u64 0, .bool false]) ∧ Below w.heap.size w w' := by
  have h1 := h.keep (below_new w (.cells #[.int .u8 0, .int .u64 0] 33))
  have HB := veil (below_new w (.cells #[.int .u8 0, .int .u64 0] 33))
  have c0 : (w.alloc (.cells #[.int .u8 0, .int .u64 0] 33)).cell? ⟨r, 0, none⟩ = some (.slice A 0 c) := h1.row.cell 0
  clear h h1
  go_enter Try.func22, Try.ntmps22
  go_wp2_with fail
  exact bodyPost_ret (v := .tuple #[.agg #[.int .u8 0, .int .u64 0], .int .u64 0, .bool false]) (by simp [results, Try.results22, go_sem]) rfl ⟨rfl, HB.out⟩

/-- b is the least of the first j, and lies at g5 -/
structure Bst (w wr : World) (r : Nat) (A : Option Addr) (n c : Nat) (L : List Tm) (g2 g5 j : Nat) (b : Tm) : Prop where
  least : Least (L.take j) b
  best : Row wr g5 69 (tv b).toArray
  res : Row wr g2 33 #[.int .u8 0, .int .u64 0]
  bel : Below w.heap.size w wr
  rf : Rf wr r A n c L
  g2w : w.heap.size ≤ g2
  g5w : w.heap.size ≤ g5
  old : ∀ z ∈ Rfoot r A, z < w.heap.size
theorem Bst.keep {w wr wr' : World} {r : Nat} {A : Option Addr} {n c : Nat} {L : List Tm} {g2 g5 j : Nat} {b : Tm} (h : Bst w wr r A n c L g2 g5 j b) (k : Below wr.heap.size wr wr') : Bst w wr' r A n c L g2 g5 j b :=
  ⟨h.least, h.best.keep k, h.res.keep k, h.bel.trans (k.mono h.bel.size), h.rf.keep k, h.g2w, h.g5w, h.old⟩
theorem take_one {L : List Tm} {j : Nat} (h : j < L.length) : L.take (j + 1) = L.take j ++ [ix L j] := by
  rw [ix_eq h]
  exact List.take_succ_eq_append_getElem h
theorem least_yes {L : List Tm} {j : Nat} {b : Tm} (h : j < L.length) (hb : Least (L.take j) b) (hl : lt (ix L j) b = true) : Least (L.take (j + 1)) (ix L j) := by
  rw [take_one h]
  refine ⟨by simp, fun y hy => ?_⟩
  rcases List.mem_append.1 hy with hy | hy
  · exact le_trans (le_of_lt hl) (hb.2 y hy)
  · simp at hy
    subst hy
    exact le_refl _
theorem least_no {L : List Tm} {j : Nat} {b : Tm} (h : j < L.length) (hb : Least (L.take j) b) (hl : lt (ix L j) b = false) : Least (L.take (j + 1)) b := by
  rw [take_one h]
  refine ⟨by simp [hb.1], fun y hy => ?_⟩
  rcases List.mem_append.1 hy with hy | hy
  · exact hb.2 y hy
  · simp at hy
    subst hy
    exact hl
theorem Bst.no {w wr : World} {r : Nat} {A : Option Addr} {n c : Nat} {L : List Tm} {g2 g5 j : Nat} {b : Tm} (h : Bst w wr r A n c L g2 g5 j b) (hj : j < L.length) (hl : lt (ix L j) b = false) : Bst w wr r A n c L g2 g5 (j + 1) b :=
  ⟨least_no hj h.least hl, h.best, h.res, h.bel, h.rf, h.g2w, h.g5w, h.old⟩
theorem Bst.yes {w wr : World} {r : Nat} {A : Option Addr} {n c : Nat} {L : List Tm} {g2 g5 j : Nat} {b : Tm} (h : Bst w wr r A n c L g2 g5 j b) (hj : j < L.length) (hl : lt (ix L j) b = true) :
    Bst w (((wr.setCell ⟨g5, 0, none⟩ (.int .u8 (ix L j).k.kd)).setCell ⟨g5, 1, none⟩ (.int .u64 (ix L j).k.id)).setCell ⟨g5, 2, none⟩ (.int .u64 (ix L j).t)) r A n c L g2 g5 (j + 1) (ix L j) := by
  have k : Kept [g5] wr (((wr.setCell ⟨g5, 0, none⟩ (.int .u8 (ix L j).k.kd)).setCell ⟨g5, 1, none⟩ (.int .u64 (ix L j).k.id)).setCell ⟨g5, 2, none⟩ (.int .u64 (ix L j).t)) := ((kept_set (by simp)).trans' (kept_set (by simp))).trans' (kept_set (by simp))
  refine ⟨least_yes hj h.least hl, ((h.best.set 0 _).set 1 _).set 2 _, row_kept h.res k (by simp; exact fun e => row_ne h.best h.res (by decide) e.symm), Kept.below h.bel k (by simp; exact h.g5w) h.bel.size, h.rf.kept k (fun z hz e => ?_), h.g2w, h.g5w, h.old⟩
  simp at e
  subst e
  have := h.old _ hz
  have := h.g5w
  omega

set_option maxRecDepth 20000 in
set_option maxHeartbeats 2000000 in
theorem rnext_some {w : World} {r : Nat} {A : Option Addr} {n c : Nat} {L : List Tm} (h : Rf w r A n c L) (x : Tm) (hx : Least L x) : Calls Try.prog 22 #[.pointer (some ⟨r, 0, none⟩)] w fun e w' => e = .returned (.tuple #[.agg #[.int .u8 x.k.kd, .int .u64 x.k.id], .int .u64 x.t, .bool true]) ∧ Below w.heap.size w w' := by
  have hlen := h.len
  have hlim := h.lim
  have hn : 0 < n := by
    obtain ⟨i, hi, _⟩ := mem_ix.1 hx.1
    omega
  have hne : ((n : Int) == 0) = false := by simp; omega
  have hne' : (n == 0) = false := by simp; omega
  have LT := veil h.lt
  have HL := veil hlen
  have HX := veil hx
  have k1 := below_new w (.cells #[.int .u8 0, .int .u64 0] 33)
  have h1 := h.keep k1
  have r1 := row_new (w := w) (cs := #[.int .u8 0, .int .u64 0]) (t := 33) rfl
  have c0 : (w.alloc (.cells #[.int .u8 0, .int .u64 0] 33)).cell? ⟨r, 0, none⟩ = some (.slice A n c) := h1.row.cell 0
  obtain ⟨g, rest, rfl, hr, _⟩ := h1.at0 hn
  have i0 : (w.alloc (.cells #[.int .u8 0, .int .u64 0] 33)).cell? ⟨g, 0, none⟩ = some (.int .u8 (ix L 0).k.kd) := cell_get hr (i := 0) (by omega) 0 (by omega)
  have i1 : (w.alloc (.cells #[.int .u8 0, .int .u64 0] 33)).cell? ⟨g, 1, none⟩ = some (.int .u64 (ix L 0).k.id) := cell_get hr (i := 0) (by omega) 1 (by omega)
  have i2 : (w.alloc (.cells #[.int .u8 0, .int .u64 0] 33)).cell? ⟨g, 2, none⟩ = some (.int .u64 (ix L 0).t) := cell_get hr (i := 0) (by omega) 2 (by omega)
  have k2 := below_new (w.alloc (.cells #[.int .u8 0, .int .u64 0] 33)) (.cells (tv (ix L 0)).toArray 69)
  have B0 : Hid (Bst w ((w.alloc (.cells #[.int .u8 0, .int .u64 0] 33)).alloc (.cells #[.int .u8 (ix L 0).k.kd, .int .u64 (ix L 0).k.id, .int .u64 (ix L 0).t] 69)) r (some ⟨g, 0, none⟩) n c L w.heap.size (w.heap.size + 1) 1 (ix L 0)) := by
    refine ⟨?_, row_new (by simp), r1.keep k2, k1.trans (k2.mono k1.size), h1.keep k2, Nat.le_refl _, by omega, LT.out⟩
    rw [show (1 : Nat) = 0 + 1 from rfl, take_one (by omega)]
    exact ⟨by simp, fun y hy => by simp at hy; subst hy; exact le_refl _⟩
  clear h h1 r1 hr k1 k2 hx LT
  generalize ix L 0 = x0 at *
  go_enter Try.func22, Try.ntmps22
  go_wp2_with fail
  clear c0 i0 i1 i2
  generalize (w.alloc (.cells #[.int .u8 0, .int .u64 0] 33)).alloc (.cells #[.int .u8 x0.k.kd, .int .u64 x0.k.id, .int .u64 x0.t] 69) = w1 at *
  obtain ⟨g2, hg2⟩ : ∃ g2, w.heap.size = g2 := ⟨_, rfl⟩
  obtain ⟨g5, hg5⟩ : ∃ g5, w.heap.size + 1 = g5 := ⟨_, rfl⟩
  have B1 : Hid (Bst w w1 r (some ⟨g, 0, none⟩) n c L g2 g5 1 x0) := by
    rw [← hg2, ← hg5]
    exact B0.out
  rw [hg5, hg2]
  clear hg2 hg5 B0 hne hne'
  go_loopw [6] (fun u wr => ∃ (j : Nat) (b : Tm), 1 ≤ j ∧ j ≤ n ∧ u = .int .i64 j ∧ Hid (Bst w wr r (some ⟨g, 0, none⟩) n c L g2 g5 j b)) (fun u _ => n - (intOf u).toNat)
  case atStart => exact ⟨1, x0, Nat.le_refl _, hn, rfl, B1⟩
  case round =>
    clear B1
    obtain ⟨j, b, hj1, hj, rfl, HB⟩ := hrel
    have c0 : wr.cell? ⟨r, 0, none⟩ = some (.slice (some ⟨g, 0, none⟩) n c) := HB.out.rf.row.cell 0
    by_cases hlt : j < n
    · have hlt2 : Hid (j < L.length) := by show _ < _; rw [HL.out]; exact hlt
      obtain ⟨g', rest', hg', hr, _⟩ := HB.out.rf.at0 hn
      injection hg' with hg'
      injection hg' with hg'
      subst hg'
      have i0 : wr.cell? ⟨g, j * 3, none⟩ = some (.int .u8 (ix L j).k.kd) := cell_get hr hlt2.out 0 (by omega)
      have i1 : wr.cell? ⟨g, j * 3 + 1, none⟩ = some (.int .u64 (ix L j).k.id) := cell_get hr hlt2.out 1 (by omega)
      have i2 : wr.cell? ⟨g, j * 3 + 2, none⟩ = some (.int .u64 (ix L j).t) := cell_get hr hlt2.out 2 (by omega)
      have b0 : wr.cell? ⟨g5, 0, none⟩ = some (.int .u8 b.k.kd) := HB.out.best.cell 0
      have b1 : wr.cell? ⟨g5, 1, none⟩ = some (.int .u64 b.k.id) := HB.out.best.cell 1
      have b2 : wr.cell? ⟨g5, 2, none⟩ = some (.int .u64 b.t) := HB.out.best.cell 2
      clear hr
      cases hz : lt (ix L j) b with
      | false =>
        have HZ := veil hz
        clear hz
        go_wp2_with fail
        go_still_tail 8, (by kernel_rfl)
        change wpList _ _ _ _ _ wr.drew
        have HB := veil (HB.out.keep (below_still (Below.refl _ wr) ⟨1, rfl⟩ : Below wr.heap.size wr wr.drew))
        clear c0 i0 i1 i2 b0 b1 b2
        generalize wr.drew = w2 at *
        go_wp2_with fail
        refine (rahead_any (ix L j) b _ HZ.out).mono ?_
        rintro e w3 ⟨rfl, h3⟩
        have HN := veil ((HB.out.keep h3).no hlt2.out HZ.out)
        clear h3
        go_wp2_with fail
        go_roundw
        case rel => exact ⟨j + 1, b, by omega, by omega, by go_num, HN⟩
        case measure => simp [intOf]; omega
      | true =>
        have HZ := veil hz
        clear hz
        go_wp2_with fail
        go_still_tail 8, (by kernel_rfl)
        change wpList _ _ _ _ _ wr.drew
        have HB := veil (HB.out.keep (below_still (Below.refl _ wr) ⟨1, rfl⟩ : Below wr.heap.size wr wr.drew))
        clear c0 i0 i1 i2 b0 b1 b2
        generalize wr.drew = w2 at *
        go_wp2_with fail
        refine (rahead_any (ix L j) b _ HZ.out).mono ?_
        rintro e w3 ⟨rfl, h3⟩
        have HB := veil (HB.out.keep h3)
        clear h3
        have HN := veil (HB.out.yes hlt2.out HZ.out)
        have c0 : w3.cell? ⟨r, 0, none⟩ = some (.slice (some ⟨g, 0, none⟩) n c) := HB.out.rf.row.cell 0
        obtain ⟨g', rest', hg', hr, _⟩ := HB.out.rf.at0 hn
        injection hg' with hg'
        injection hg' with hg'
        subst hg'
        have i0 : w3.cell? ⟨g, j * 3, none⟩ = some (.int .u8 (ix L j).k.kd) := cell_get hr hlt2.out 0 (by omega)
        have i1 : w3.cell? ⟨g, j * 3 + 1, none⟩ = some (.int .u64 (ix L j).k.id) := cell_get hr hlt2.out 1 (by omega)
        have i2 : w3.cell? ⟨g, j * 3 + 2, none⟩ = some (.int .u64 (ix L j).t) := cell_get hr hlt2.out 2 (by omega)
        have b0 : w3.cell? ⟨g5, 0, none⟩ = some (.int .u8 b.k.kd) := HB.out.best.cell 0
        have b1 : w3.cell? ⟨g5, 1, none⟩ = some (.int .u64 b.k.id) := HB.out.best.cell 1
        have b2 : w3.cell? ⟨g5, 2, none⟩ = some (.int .u64 b.t) := HB.out.best.cell 2
        have f0 : w3.frozen? ⟨g5, 0, none⟩ = false := HB.out.best.frozen 0
        have f1 : w3.frozen? ⟨g5, 1, none⟩ = false := HB.out.best.frozen 1
        have f2 : w3.frozen? ⟨g5, 2, none⟩ = false := HB.out.best.frozen 2
        clear hr HB
        generalize hy : ix L j = y at *
        go_wp2_with fail
        go_roundw
        case rel => exact ⟨j + 1, y, by omega, by omega, by go_num, HN⟩
        case measure => simp [intOf]; omega
    · have hjn : j = n := by omega
      have hlt' : ¬ (j : Int) < (n : Int) := by omega
      have hb := HB.out.least
      rw [hjn, ← HL.out, List.take_length] at hb
      obtain rfl := least_one HX.out hb
      have b0 : wr.cell? ⟨g5, 0, none⟩ = some (.int .u8 x.k.kd) := HB.out.best.cell 0
      have b1 : wr.cell? ⟨g5, 1, none⟩ = some (.int .u64 x.k.id) := HB.out.best.cell 1
      have b2 : wr.cell? ⟨g5, 2, none⟩ = some (.int .u64 x.t) := HB.out.best.cell 2
      have hrw : g2 < wr.heap.size := HB.out.res.lt
      have r0 : wr.cell? ⟨g2, 0, none⟩ = some (.int .u8 0) := HB.out.res.cell 0
      have r1 : wr.cell? ⟨g2, 1, none⟩ = some (.int .u64 0) := HB.out.res.cell 1
      have s0 : wr.frozen? ⟨g2, 0, none⟩ = false := HB.out.res.frozen 0
      have s1 : wr.frozen? ⟨g2, 1, none⟩ = false := HB.out.res.frozen 1
      have hne2 : g5 ≠ g2 := row_ne HB.out.best HB.out.res (by decide)
      clear hjn hlt hb
      go_wp2_with fail
      go_region
      all_goals
        go_wp2_with fail
        have K : Kept [g2] wr ((wr.setCell ⟨g2, 0, none⟩ (.int .u8 x.k.kd)).setCell ⟨g2, 1, none⟩ (.int .u64 x.k.id)).drew := ((kept_set (by simp)).trans' (kept_set (by simp))).trans' (kept_drew _ _)
        exact bodyPost_ret (v := .tuple #[.agg #[.int .u8 x.k.kd, .int .u64 x.k.id], .int .u64 x.t, .bool true]) (by simp [results, Try.results22, go_sem, r0, r1]) rfl ⟨rfl, Kept.below HB.out.bel K (by simp; exact HB.out.g2w) HB.out.bel.size⟩

end Go.Proofs.Ytkjgmimfnmilfaa.Tm5
