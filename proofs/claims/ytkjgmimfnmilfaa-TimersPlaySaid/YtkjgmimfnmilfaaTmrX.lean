/-
  What a set's Next and Due do.
  Conditions: at most 256 timers.
-/
import Derived.Test.YtkjgmimfnmilfaaTmrW
namespace Go.Proofs.Ytkjgmimfnmilfaa.Tm5
open Go.RowKit Go.Proofs.Ytkjgmimfnmilfaa.Ops

/-- what Next and Due answer -/
def ans (x : Tm) (b : Bool) : Value := .tuple #[.agg #[.int .u8 x.k.kd, .int .u64 x.k.id], .int .u64 x.t, .bool b]
def zero : Tm := ⟨⟨0, 0⟩, 0⟩
def Least (l : List Tm) (x : Tm) : Prop := x ∈ l ∧ ∀ y ∈ l, le x y
theorem least_root {l : List Tm} {x : Tm} (h : HP l l.length) (hx : Least l x) : 0 < l.length ∧ ix l 0 = x := by
  obtain ⟨i, hi, _⟩ := mem_ix.1 hx.1
  have h0 : 0 < l.length := by omega
  exact ⟨h0, le_antisymm (heap_min h x hx.1) (hx.2 _ (ix_mem h0))⟩
theorem least_ex {l : List Tm} {w : World} {s : Nat} {F : List Nat} (h : Ts w s F l) (hl : l ≠ []) : ∃ x, Least l x := by
  obtain ⟨q, b, A, n, c, rfl, h⟩ := h
  have h2 := h.hq.2
  rw [← h.hq.1.len] at h2
  have h0 : 0 < l.length := List.length_pos_iff.2 hl
  exact ⟨ix l 0, ix_mem h0, heap_min h2⟩

theorem next_void {w : World} {p : Option Addr} (h : Void w p) : Calls Try.prog 11 #[.pointer p] w fun e w' => e = .returned (ans zero false) ∧ Below w.heap.size w w' := by
  have H1 := veil (h.keep (below_new w (.cells #[.int .u8 0, .int .u64 0] 33)))
  have HB := veil (below_new w (.cells #[.int .u8 0, .int .u64 0] 33))
  clear h
  go_enter Try.func11, Try.ntmps11
  go_wp2_with fail
  refine (len_void H1.out).mono ?_
  rintro e w2 ⟨rfl, rfl⟩
  go_wp2_with fail
  exact bodyPost_ret (v := ans zero false) (by simp [results, Try.results11, go_sem, ans, zero]) rfl ⟨rfl, HB.out⟩

theorem next_none {w : World} {s : Nat} {F : List Nat} (h : Ts w s F []) : Calls Try.prog 11 #[.pointer (some ⟨s, 0, none⟩)] w fun e w' => e = .returned (ans zero false) ∧ Below w.heap.size w w' := by
  have H1 := veil (h.keep (below_new w (.cells #[.int .u8 0, .int .u64 0] 33)))
  have HB := veil (below_new w (.cells #[.int .u8 0, .int .u64 0] 33))
  clear h
  go_enter Try.func11, Try.ntmps11
  go_wp2_with fail
  refine (tlen H1.out 0 rfl).mono ?_
  rintro e w2 ⟨rfl, rfl⟩
  go_wp2_with fail
  exact bodyPost_ret (v := ans zero false) (by simp [results, Try.results11, go_sem, ans, zero]) rfl ⟨rfl, HB.out⟩

set_option maxHeartbeats 1000000 in
theorem next_some {w : World} {s : Nat} {F : List Nat} {l : List Tm} (h : Ts w s F l) (x : Tm) (hx : Least l x) : Calls Try.prog 11 #[.pointer (some ⟨s, 0, none⟩)] w fun e w' => e = .returned (ans x true) ∧ Below w.heap.size w w' := by
  have T1 := veil (h.keep (below_new w (.cells #[.int .u8 0, .int .u64 0] 33)))
  have r1 := row_new (w := w) (cs := #[.int .u8 0, .int .u64 0]) (t := 33) rfl
  have HB := veil (below_new w (.cells #[.int .u8 0, .int .u64 0] 33))
  obtain ⟨q, b, A, n, c, rfl, h⟩ := h
  have h2 := h.hq.2
  rw [← h.hq.1.len] at h2
  obtain ⟨h0, he⟩ := least_root h2 hx
  have h1 := h.keep (below_new w (.cells #[.int .u8 0, .int .u64 0] 33))
  have hl := h.hq.1.len
  have hlim := h.hq.1.lim
  obtain ⟨f, hq, _⟩ := h1.hq.1
  obtain ⟨g, rest, rfl, hr, _⟩ := hq.at0 (by omega)
  have c0 : (w.alloc (.cells #[.int .u8 0, .int .u64 0] 33)).cell? ⟨s, 0, none⟩ = some (.pointer (some ⟨q, 0, none⟩)) := h1.row.cell 0
  have c1 : (w.alloc (.cells #[.int .u8 0, .int .u64 0] 33)).cell? ⟨q, 0, none⟩ = some (.slice (some ⟨g, 0, none⟩) n c) := hq.row.cell 0
  have i0 : (w.alloc (.cells #[.int .u8 0, .int .u64 0] 33)).cell? ⟨g, 0, none⟩ = some (.int .u8 x.k.kd) := by have := cell_get hr (i := 0) (by omega) 0 (by omega); rw [he] at this; exact this
  have i1 : (w.alloc (.cells #[.int .u8 0, .int .u64 0] 33)).cell? ⟨g, 1, none⟩ = some (.int .u64 x.k.id) := by have := cell_get hr (i := 0) (by omega) 1 (by omega); rw [he] at this; exact this
  have i2 : (w.alloc (.cells #[.int .u8 0, .int .u64 0] 33)).cell? ⟨g, 2, none⟩ = some (.int .u64 x.t) := by have := cell_get hr (i := 0) (by omega) 2 (by omega); rw [he] at this; exact this
  have hn : 0 < n := by omega
  have hn' : (0 : Int) < (n : Int) := by omega
  have hne : ((n : Int) == 0) = false := by simp; omega
  have hne' : (n == 0) = false := by simp; omega
  have HL := veil hl
  have C := veil (And.intro c0 (And.intro c1 (And.intro i0 (And.intro i1 i2))))
  obtain ⟨r, hrr⟩ : ∃ r, w.heap.size = r := ⟨_, rfl⟩
  rw [hrr] at r1
  have R1 := veil r1
  clear h h1 h2 h0 he hl hr hq hx c0 c1 i0 i1 i2 r1
  go_enter Try.func11, Try.ntmps11
  go_wp2_with fail
  have HW := veil (Nat.le_of_eq hrr)
  clear hrr
  generalize w.alloc (.cells #[.int .u8 0, .int .u64 0] 33) = w1 at *
  refine (tlen T1.out n HL.out).mono ?_
  rintro e w2 ⟨rfl, rfl⟩
  obtain ⟨c0, c1, i0, i1, i2⟩ := C.out
  have hrw : r < w1.heap.size := R1.out.lt
  have r0 : w1.cell? ⟨r, 0, none⟩ = some (.int .u8 0) := R1.out.cell 0
  have r1 : w1.cell? ⟨r, 1, none⟩ = some (.int .u64 0) := R1.out.cell 1
  have s0 : w1.frozen? ⟨r, 0, none⟩ = false := R1.out.frozen 0
  have s1 : w1.frozen? ⟨r, 1, none⟩ = false := R1.out.frozen 1
  go_wp2_with fail
  go_region
  all_goals
    go_wp2_with fail
    have B1 := below_gb (below_gb HB.out (gb_set w1 r 0 (.int .u8 x.k.kd)) HB.out.size HW.out) (gb_set _ r 1 (.int .u64 x.k.id)) (Nat.le_trans HB.out.size (by simp [World.setCell])) HW.out
    have B2 := below_still (B1.alloc B1.size (.cells #[.int .u8 x.k.kd, .int .u64 x.k.id, .int .u64 x.t] 61)) ⟨1, rfl⟩
    exact bodyPost_ret (v := ans x true) (by simp [results, Try.results11, go_sem, ans, r0, r1, hrw]) rfl ⟨rfl, B2⟩

theorem due_void {w : World} {p : Option Addr} (h : Void w p) (now : Int) : Calls Try.prog 12 #[.pointer p, .int .u64 now] w fun e w' => e = .returned (ans zero false) ∧ Below w.heap.size w w' := by
  have H1 := veil (h.keep (below_new w (.cells #[.int .u8 0, .int .u64 0] 33)))
  have HB := veil (below_new w (.cells #[.int .u8 0, .int .u64 0] 33))
  have r1 := row_new (w := w) (cs := #[.int .u8 0, .int .u64 0]) (t := 33) rfl
  obtain ⟨r, hrr⟩ : ∃ r, w.heap.size = r := ⟨_, rfl⟩
  rw [hrr] at r1
  have R1 := veil r1
  clear h r1
  go_enter Try.func12, Try.ntmps12
  go_wp2_with fail
  have HW := veil (Nat.le_of_eq hrr)
  clear hrr
  generalize w.alloc (.cells #[.int .u8 0, .int .u64 0] 33) = w1 at *
  refine (next_void H1.out).mono ?_
  unfold ans zero
  rintro e w2 ⟨rfl, h2⟩
  have R2 := veil (R1.out.keep h2)
  have HB2 := veil (HB.out.trans (h2.mono HB.out.size))
  clear h2 R1 HB H1
  have hrw : r < w2.heap.size := R2.out.lt
  have r0 : w2.cell? ⟨r, 0, none⟩ = some (.int .u8 0) := R2.out.cell 0
  have r1 : w2.cell? ⟨r, 1, none⟩ = some (.int .u64 0) := R2.out.cell 1
  have s0 : w2.frozen? ⟨r, 0, none⟩ = false := R2.out.frozen 0
  have s1 : w2.frozen? ⟨r, 1, none⟩ = false := R2.out.frozen 1
  go_wp2_with fail
  have B1 := below_gb (below_gb HB2.out (gb_set w2 r 0 (.int .u8 0)) HB2.out.size HW.out) (gb_set _ r 1 (.int .u64 0)) (Nat.le_trans HB2.out.size (by simp [World.setCell])) HW.out
  have B2 := B1.alloc B1.size (.cells #[.int .u8 0, .int .u64 0] 33)
  exact bodyPost_ret (v := ans zero false) (by simp [results, Try.results12, go_sem, ans, zero, r0, r1, hrw]) rfl ⟨rfl, B2⟩

theorem due_late {w : World} {s : Nat} {F : List Nat} {l : List Tm} (h : Ts w s F l) (now : Int) (hx : l = [] ∨ ∃ x, Least l x ∧ now < x.t) : Calls Try.prog 12 #[.pointer (some ⟨s, 0, none⟩), .int .u64 now] w fun e w' => e = .returned (ans zero false) ∧ Below w.heap.size w w' := by
  have H1 := veil (h.keep (below_new w (.cells #[.int .u8 0, .int .u64 0] 33)))
  have HB := veil (below_new w (.cells #[.int .u8 0, .int .u64 0] 33))
  have r1 := row_new (w := w) (cs := #[.int .u8 0, .int .u64 0]) (t := 33) rfl
  obtain ⟨r, hrr⟩ : ∃ r, w.heap.size = r := ⟨_, rfl⟩
  rw [hrr] at r1
  have R1 := veil r1
  clear h r1
  go_enter Try.func12, Try.ntmps12
  go_wp2_with fail
  have HW := veil (Nat.le_of_eq hrr)
  clear hrr
  generalize w.alloc (.cells #[.int .u8 0, .int .u64 0] 33) = w1 at *
  rcases hx with rfl | ⟨x, hx, ht⟩
  · refine (next_none H1.out).mono ?_
    unfold ans zero
    rintro e w2 ⟨rfl, h2⟩
    have R2 := veil (R1.out.keep h2)
    have HB2 := veil (HB.out.trans (h2.mono HB.out.size))
    clear h2 R1 HB H1
    have hrw : r < w2.heap.size := R2.out.lt
    have r0 : w2.cell? ⟨r, 0, none⟩ = some (.int .u8 0) := R2.out.cell 0
    have r1 : w2.cell? ⟨r, 1, none⟩ = some (.int .u64 0) := R2.out.cell 1
    have s0 : w2.frozen? ⟨r, 0, none⟩ = false := R2.out.frozen 0
    have s1 : w2.frozen? ⟨r, 1, none⟩ = false := R2.out.frozen 1
    go_wp2_with fail
    have B1 := below_gb (below_gb HB2.out (gb_set w2 r 0 (.int .u8 0)) HB2.out.size HW.out) (gb_set _ r 1 (.int .u64 0)) (Nat.le_trans HB2.out.size (by simp [World.setCell])) HW.out
    have B2 := B1.alloc B1.size (.cells #[.int .u8 0, .int .u64 0] 33)
    exact bodyPost_ret (v := ans zero false) (by simp [results, Try.results12, go_sem, ans, zero, r0, r1, hrw]) rfl ⟨rfl, B2⟩
  · refine (next_some H1.out x hx).mono ?_
    unfold ans
    rintro e w2 ⟨rfl, h2⟩
    have R2 := veil (R1.out.keep h2)
    have HB2 := veil (HB.out.trans (h2.mono HB.out.size))
    clear h2 R1 HB H1 hx
    have hrw : r < w2.heap.size := R2.out.lt
    have r0 : w2.cell? ⟨r, 0, none⟩ = some (.int .u8 0) := R2.out.cell 0
    have r1 : w2.cell? ⟨r, 1, none⟩ = some (.int .u64 0) := R2.out.cell 1
    have s0 : w2.frozen? ⟨r, 0, none⟩ = false := R2.out.frozen 0
    have s1 : w2.frozen? ⟨r, 1, none⟩ = false := R2.out.frozen 1
    go_wp2_with fail
    have B1 := below_gb (below_gb HB2.out (gb_set w2 r 0 (.int .u8 0)) HB2.out.size HW.out) (gb_set _ r 1 (.int .u64 0)) (Nat.le_trans HB2.out.size (by simp [World.setCell])) HW.out
    have B2 := B1.alloc B1.size (.cells #[.int .u8 x.k.kd, .int .u64 x.k.id] 33)
    exact bodyPost_ret (v := ans zero false) (by simp [results, Try.results12, go_sem, ans, zero, r0, r1, hrw]) rfl ⟨rfl, B2⟩

theorem due_canc {w w2 w3 w4 : World} {s q b : Nat} {A : Option Addr} {n m c : Nat} {l : List Tm} {k : Tk} {r : Nat} (h2 : Ss w2 s q b A m c l) (ht : Taken w2 w3 q b A n c l k) (hb : Below w.heap.size w w2) (hk : Kept [r] w3 w4) (hr : r ∉ s :: Foot q b A) (hw : w.heap.size ≤ r) : Canc w s (s :: Foot q b A) l k w4 := by
  obtain ⟨l', h1, h5, h3⟩ := ht
  refine ⟨l', ⟨s :: Foot q b A, ⟨q, b, A, n, c, rfl, ⟨row_kept (row_kept h2.row h3 h2.sf) hk (by simp; rintro rfl; exact hr (by simp)), h1.1.kept hk (fun z hz e => hr (by simp at e; rw [← e]; simp [hz])), h1.2⟩⟩, ?_, fun z hz => .inl hz⟩, h5⟩
  exact ((kept_below hb).trans' (h3.mono (fun z hz => by simp [hz]))).trans hk (by simp; exact .inr hw)

set_option maxHeartbeats 1000000 in
theorem due_take {w : World} {s : Nat} {F : List Nat} {l : List Tm} (h : Ts w s F l) (now : Int) (x : Tm) (hx : Least l x) (ht : x.t ≤ now) : Calls Try.prog 12 #[.pointer (some ⟨s, 0, none⟩), .int .u64 now] w fun e w' => e = .returned (ans x true) ∧ Canc w s F l x.k w' := by
  have H1 := veil (h.keep (below_new w (.cells #[.int .u8 0, .int .u64 0] 33)))
  have HB := veil (below_new w (.cells #[.int .u8 0, .int .u64 0] 33))
  have r1 := row_new (w := w) (cs := #[.int .u8 0, .int .u64 0]) (t := 33) rfl
  have HF : Hid (w.heap.size ∉ F) := fun e => by have := h.lt _ e; omega
  obtain ⟨r, hrr⟩ : ∃ r, w.heap.size = r := ⟨_, rfl⟩
  rw [hrr] at r1 HF
  have R1 := veil r1
  clear h r1
  go_enter Try.func12, Try.ntmps12
  go_wp2_with fail
  have HW := veil (Nat.le_of_eq hrr)
  clear hrr
  generalize w.alloc (.cells #[.int .u8 0, .int .u64 0] 33) = w1 at *
  refine (next_some H1.out x hx).mono ?_
  unfold ans
  rintro e w2 ⟨rfl, h2⟩
  have k2 := below_new w2 (.cells #[.int .u8 x.k.kd, .int .u64 x.k.id] 33)
  have R2 := veil ((R1.out.keep h2).keep k2)
  have H2 := veil ((H1.out.keep h2).keep k2)
  have HB2 := veil ((HB.out.trans (h2.mono HB.out.size)).trans (k2.mono (Nat.le_trans HB.out.size h2.size)))
  clear h2 R1 HB H1 k2
  obtain ⟨q, b, A, n, c, rfl, h2⟩ := H2.out
  have hq2 := h2.hq.2
  rw [← h2.hq.1.len] at hq2
  obtain ⟨h0, he⟩ := least_root hq2 hx
  have hl := h2.hq.1.len
  obtain ⟨m, rfl⟩ : ∃ m, n = m + 1 := ⟨n - 1, by omega⟩
  have TK := veil (take_any h2.hq 0 (Nat.zero_le _))
  rw [he] at TK
  have S2 := veil h2
  have c0 : (w2.alloc (.cells #[.int .u8 x.k.kd, .int .u64 x.k.id] 33)).cell? ⟨s, 0, none⟩ = some (.pointer (some ⟨q, 0, none⟩)) := h2.row.cell 0
  clear h2 hq2 h0 he hl hx H2
  simp only [tv] at TK
  go_wp2_with fail
  clear c0
  generalize w2.alloc (.cells #[.int .u8 x.k.kd, .int .u64 x.k.id] 33) = w2' at *
  refine (TK.out).mono ?_
  rintro e w3 ⟨rfl, h3⟩
  have T3 := veil h3
  obtain ⟨l3, _, _, k3⟩ := h3
  have R3 := veil ((row_kept R2.out k3 (fun e => HF.out (by simp [e]))).keep (below_new w3 (.cells #[.int .u8 x.k.kd, .int .u64 x.k.id, .int .u64 x.t] 61)))
  have K3 := veil (kept_alloc [r] w3 (.cells #[.int .u8 x.k.kd, .int .u64 x.k.id, .int .u64 x.t] 61))
  have b3 := box_new (w := w3) (x := x) (T := 61) rfl
  obtain ⟨g, hg⟩ : ∃ g, w3.heap.size = g := ⟨_, rfl⟩
  rw [hg] at b3
  have B3 := veil b3
  clear k3 TK R2 b3
  go_wp2_with fail
  clear hg
  generalize w3.alloc (.cells #[.int .u8 x.k.kd, .int .u64 x.k.id, .int .u64 x.t] 61) = w4 at *
  have hrw : r < w4.heap.size := R3.out.lt
  have r0 : w4.cell? ⟨r, 0, none⟩ = some (.int .u8 0) := R3.out.cell 0
  have r1 : w4.cell? ⟨r, 1, none⟩ = some (.int .u64 0) := R3.out.cell 1
  have s0 : w4.frozen? ⟨r, 0, none⟩ = false := R3.out.frozen 0
  have s1 : w4.frozen? ⟨r, 1, none⟩ = false := R3.out.frozen 1
  obtain ⟨i0, i1, i2⟩ := B3.out
  go_region
  all_goals
    go_wp2_with fail
    have k4 : Kept [r] w4 ((w4.setCell ⟨r, 0, none⟩ (.int .u8 x.k.kd)).setCell ⟨r, 1, none⟩ (.int .u64 x.k.id)).drew := ((kept_set (by simp)).trans' (kept_set (by simp))).trans' (kept_drew _ _)
    exact bodyPost_ret (v := ans x true) (by simp [results, Try.results12, go_sem, ans, r0, r1]) rfl ⟨rfl, due_canc S2.out T3.out HB2.out (K3.out.trans' k4) HF.out HW.out⟩

end Go.Proofs.Ytkjgmimfnmilfaa.Tm5
