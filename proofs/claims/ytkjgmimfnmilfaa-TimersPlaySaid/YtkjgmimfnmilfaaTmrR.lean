/-
  What the reference's Due does; what each call of the reference answers, by the plain list that it holds.
  Conditions: at most 256 timers.
-/
import Derived.Test.YtkjgmimfnmilfaaTmrO
namespace Go.Proofs.Ytkjgmimfnmilfaa.Tm5
open Go.RowKit Go.Proofs.Ytkjgmimfnmilfaa.Ops

theorem rs_next {w : World} {r : Nat} {G : List Nat} {L : List Tm} (h : Rs w r G L) (x : Tm) (b : Bool) (hx : Nx L x b) : Calls Try.prog 22 #[.pointer (some ⟨r, 0, none⟩)] w fun e w' => e = .returned (.tuple #[.agg #[.int .u8 x.k.kd, .int .u64 x.k.id], .int .u64 x.t, .bool b]) ∧ Below w.heap.size w w' := by
  obtain ⟨A, n, c, rfl, h⟩ := h
  rcases hx with ⟨rfl, rfl, rfl⟩ | ⟨rfl, hx⟩
  · have hn := h.len
    simp at hn
    subst hn
    exact rnext_none h
  · exact rnext_some h x hx
theorem rs_at {w : World} {r : Nat} {G : List Nat} {L : List Tm} (h : Rs w r G L) (k : Tk) (hk : k.ok) (t : Int) (b : Bool) (ht : tm L k = t) (hb : has L k = b) :
    Calls Try.prog 23 #[.pointer (some ⟨r, 0, none⟩), .agg #[.int .u8 k.kd, .int .u64 k.id]] w fun e w' => e = .returned (.tuple #[.int .u64 t, .bool b]) ∧ Below w.heap.size w w' := by
  obtain ⟨A, n, c, rfl, h⟩ := h
  obtain ⟨o, ho⟩ := lies_ex L k
  subst ht hb
  cases o with
  | none =>
    rw [tm_none (by rw [lies_has ho]; rfl), lies_has ho]
    exact rat_no h k hk ho
  | some i =>
    rw [lies_tm ho h.kn, lies_has ho]
    exact rat_yes h k hk i ho
theorem rs_arm {w : World} {r : Nat} {G : List Nat} {L : List Tm} (h : Rs w r G L) (x : Tm) (hx : x.ok) (hc : has L x.k = true ∨ L.length < 256) :
    Calls Try.prog 19 #[.pointer (some ⟨r, 0, none⟩), .agg #[.int .u8 x.k.kd, .int .u64 x.k.id], .int .u64 x.t] w fun e w' => e = .returned (.int .i64 0) ∧ Ru w w' r G (put L x) := by
  obtain ⟨o, ho⟩ := lies_ex L x.k
  cases o with
  | none =>
    refine rarm_new h x hx ho ?_
    rcases hc with hc | hc
    · rw [lies_has ho] at hc
      cases hc
    · exact hc
  | some i => exact rarm_old h x hx i ho
theorem rs_full {w : World} {r : Nat} {G : List Nat} {L : List Tm} (h : Rs w r G L) (k : Tk) (t : Int) (hk : k.ok) (hn : has L k = false) (hf : L.length = 256) :
    Calls Try.prog 19 #[.pointer (some ⟨r, 0, none⟩), .agg #[.int .u8 k.kd, .int .u64 k.id], .int .u64 t] w fun e w' => e = .returned (.int .i64 3) ∧ Ru w w' r G L := by
  refine (rarm_full h k t hk (has_no.1 hn) hf).mono ?_
  rintro e w' ⟨rfl, hb⟩
  exact ⟨rfl, Ru.same h hb⟩
theorem rs_cancel {w : World} {r : Nat} {G : List Nat} {L : List Tm} (h : Rs w r G L) (k : Tk) (hk : k.ok) (b : Bool) (hb : has L k = b) :
    Calls Try.prog 20 #[.pointer (some ⟨r, 0, none⟩), .agg #[.int .u8 k.kd, .int .u64 k.id]] w fun e w' => e = .returned (.bool b) ∧ Ru w w' r G (del L k) := by
  obtain ⟨o, ho⟩ := lies_ex L k
  subst hb
  cases o with
  | none =>
    rw [del_none (has_no.2 ho), lies_has ho]
    refine (rcancel_no h k hk ho).mono ?_
    rintro e w' ⟨rfl, hb⟩
    exact ⟨rfl, Ru.same h hb⟩
  | some i =>
    rw [lies_has ho]
    exact rcancel_yes h k hk i ho

set_option maxHeartbeats 1000000 in
theorem rdue_late {w : World} {r : Nat} {G : List Nat} {L : List Tm} (h : Rs w r G L) (now : Int) (hx : L = [] ∨ ∃ x, Least L x ∧ now < x.t) : Calls Try.prog 21 #[.pointer (some ⟨r, 0, none⟩), .int .u64 now] w fun e w' => e = .returned (.tuple #[.agg #[.int .u8 0, .int .u64 0], .int .u64 0, .bool false]) ∧ Below w.heap.size w w' := by
  have H1 := veil (h.keep (below_new w (.cells #[.int .u8 0, .int .u64 0] 33)))
  have HB := veil (below_new w (.cells #[.int .u8 0, .int .u64 0] 33))
  have r1 := row_new (w := w) (cs := #[.int .u8 0, .int .u64 0]) (t := 33) rfl
  obtain ⟨q, hrr⟩ : ∃ q, w.heap.size = q := ⟨_, rfl⟩
  rw [hrr] at r1
  have R1 := veil r1
  clear h r1
  go_enter Try.func21, Try.ntmps21
  go_wp2_with fail
  have HW := veil (Nat.le_of_eq hrr)
  clear hrr
  generalize w.alloc (.cells #[.int .u8 0, .int .u64 0] 33) = w1 at *
  rcases hx with rfl | ⟨x, hx, ht⟩
  · refine (rs_next H1.out ⟨⟨0, 0⟩, 0⟩ false (.inl ⟨rfl, rfl, rfl⟩)).mono ?_
    rintro e w2 ⟨rfl, h2⟩
    have R2 := veil (R1.out.keep h2)
    have HB2 := veil (HB.out.trans (h2.mono HB.out.size))
    clear h2 R1 HB H1
    have hrw : q < w2.heap.size := R2.out.lt
    have r0 : w2.cell? ⟨q, 0, none⟩ = some (.int .u8 0) := R2.out.cell 0
    have r1 : w2.cell? ⟨q, 1, none⟩ = some (.int .u64 0) := R2.out.cell 1
    have s0 : w2.frozen? ⟨q, 0, none⟩ = false := R2.out.frozen 0
    have s1 : w2.frozen? ⟨q, 1, none⟩ = false := R2.out.frozen 1
    go_wp2_with fail
    have B1 := below_gb (below_gb HB2.out (gb_set w2 q 0 (.int .u8 0)) HB2.out.size HW.out) (gb_set _ q 1 (.int .u64 0)) (Nat.le_trans HB2.out.size (by simp [World.setCell])) HW.out
    have B2 := B1.alloc B1.size (.cells #[.int .u8 0, .int .u64 0] 33)
    exact bodyPost_ret (v := .tuple #[.agg #[.int .u8 0, .int .u64 0], .int .u64 0, .bool false]) (by simp [results, Try.results21, go_sem, r0, r1, hrw]) rfl ⟨rfl, B2⟩
  · refine (rs_next H1.out x true (.inr ⟨rfl, hx⟩)).mono ?_
    rintro e w2 ⟨rfl, h2⟩
    have R2 := veil (R1.out.keep h2)
    have HB2 := veil (HB.out.trans (h2.mono HB.out.size))
    clear h2 R1 HB H1 hx
    have hrw : q < w2.heap.size := R2.out.lt
    have r0 : w2.cell? ⟨q, 0, none⟩ = some (.int .u8 0) := R2.out.cell 0
    have r1 : w2.cell? ⟨q, 1, none⟩ = some (.int .u64 0) := R2.out.cell 1
    have s0 : w2.frozen? ⟨q, 0, none⟩ = false := R2.out.frozen 0
    have s1 : w2.frozen? ⟨q, 1, none⟩ = false := R2.out.frozen 1
    go_wp2_with fail
    have B1 := below_gb (below_gb HB2.out (gb_set w2 q 0 (.int .u8 0)) HB2.out.size HW.out) (gb_set _ q 1 (.int .u64 0)) (Nat.le_trans HB2.out.size (by simp [World.setCell])) HW.out
    have B2 := B1.alloc B1.size (.cells #[.int .u8 x.k.kd, .int .u64 x.k.id] 33)
    exact bodyPost_ret (v := .tuple #[.agg #[.int .u8 0, .int .u64 0], .int .u64 0, .bool false]) (by simp [results, Try.results21, go_sem, r0, r1, hrw]) rfl ⟨rfl, B2⟩

theorem Ru.aside {w w1 w2 : World} {r : Nat} {G : List Nat} {L : List Tm} {q : Nat} {G' : List Nat} (h1 : Rs w1 r G' L) (h2 : Kept G w w1) (h3 : ∀ z ∈ G', z ∈ G ∨ w.heap.size ≤ z) (hk : Kept [q] w1 w2) (hq : q ∉ G') (hw : w.heap.size ≤ q) : Ru w w2 r G L :=
  ⟨G', h1.kept hk (fun x hx e => by simp at e; subst e; exact hq hx), h2.trans hk (by simp; exact .inr hw), h3⟩

set_option maxHeartbeats 1000000 in
theorem rdue_take {w : World} {r : Nat} {G : List Nat} {L : List Tm} (h : Rs w r G L) (now : Int) (x : Tm) (hx : Least L x) (ht : x.t ≤ now) : Calls Try.prog 21 #[.pointer (some ⟨r, 0, none⟩), .int .u64 now] w fun e w' => e = .returned (.tuple #[.agg #[.int .u8 x.k.kd, .int .u64 x.k.id], .int .u64 x.t, .bool true]) ∧ Ru w w' r G (del L x.k) := by
  have H1 := veil (h.keep (below_new w (.cells #[.int .u8 0, .int .u64 0] 33)))
  have HB := veil (below_new w (.cells #[.int .u8 0, .int .u64 0] 33))
  have r1 := row_new (w := w) (cs := #[.int .u8 0, .int .u64 0]) (t := 33) rfl
  have HF : Hid (w.heap.size ∉ G) := fun e => by have := h.lt _ e; omega
  have XOK : Hid x.ok := by obtain ⟨A, n, c, rfl, h⟩ := h; exact h.ok x hx.1
  have XH : Hid (has L x.k = true) := has_yes.2 ⟨x, hx.1, rfl⟩
  have LG := veil h.lt
  obtain ⟨q, hrr⟩ : ∃ q, w.heap.size = q := ⟨_, rfl⟩
  rw [hrr] at r1 HF
  have R1 := veil r1
  clear h r1
  go_enter Try.func21, Try.ntmps21
  go_wp2_with fail
  have HW := veil (Nat.le_of_eq hrr)
  clear hrr
  generalize w.alloc (.cells #[.int .u8 0, .int .u64 0] 33) = w1 at *
  refine (rs_next H1.out x true (.inr ⟨rfl, hx⟩)).mono ?_
  rintro e w2 ⟨rfl, h2⟩
  have k2 := below_new w2 (.cells #[.int .u8 x.k.kd, .int .u64 x.k.id] 33)
  have R2 := veil ((R1.out.keep h2).keep k2)
  have H2 := veil ((H1.out.keep h2).keep k2)
  have HB2 := veil ((HB.out.trans (h2.mono HB.out.size)).trans (k2.mono (Nat.le_trans HB.out.size h2.size)))
  have X2 := row_new (w := w2) (cs := #[.int .u8 x.k.kd, .int .u64 x.k.id]) (t := 33) rfl
  have hg7 : w.heap.size ≤ w2.heap.size := Nat.le_trans HB.out.size h2.size
  clear h2 R1 HB H1 k2 hx
  obtain ⟨g7, hg⟩ : ∃ g, w2.heap.size = g := ⟨_, rfl⟩
  rw [hg] at X2 hg7
  have X2' := veil X2
  have HG7 := veil hg7
  have x0 : (w2.alloc (.cells #[.int .u8 x.k.kd, .int .u64 x.k.id] 33)).cell? ⟨g7, 0, none⟩ = some (.int .u8 x.k.kd) := X2.cell 0
  have x1 : (w2.alloc (.cells #[.int .u8 x.k.kd, .int .u64 x.k.id] 33)).cell? ⟨g7, 1, none⟩ = some (.int .u64 x.k.id) := X2.cell 1
  clear X2 hg7
  go_wp2_with fail
  clear hg x0 x1
  generalize w2.alloc (.cells #[.int .u8 x.k.kd, .int .u64 x.k.id] 33) = w3 at *
  refine (rs_cancel H2.out x.k XOK.out.k true XH.out).mono ?_
  rintro e w4 ⟨rfl, G4, h4, k4, n4⟩
  have R4 := veil (row_kept R2.out k4 HF.out)
  have NG : Hid (g7 ∉ G) := fun e => by have := LG.out _ e; have := HG7.out; omega
  have X4 := veil (row_kept X2'.out k4 NG.out)
  have Q4 : Hid (q ∉ G4) := fun e => by
    rcases n4 q e with z | z
    · exact HF.out z
    · have := R2.out.lt
      omega
  have Z : Hid (∀ w5, Kept [q] w4 w5 → Ru w w5 r G (del L x.k)) := fun w5 k5 => (Ru.aside h4 ((kept_below HB2.out).trans' k4) (fun z hz => (n4 z hz).imp id (fun e => Nat.le_trans HB2.out.size e)) k5 Q4.out HW.out)
  clear h4 k4 n4 H2 R2 HB2 X2'
  have hrw : q < w4.heap.size := R4.out.lt
  have r0 : w4.cell? ⟨q, 0, none⟩ = some (.int .u8 0) := R4.out.cell 0
  have r1 : w4.cell? ⟨q, 1, none⟩ = some (.int .u64 0) := R4.out.cell 1
  have s0 : w4.frozen? ⟨q, 0, none⟩ = false := R4.out.frozen 0
  have s1 : w4.frozen? ⟨q, 1, none⟩ = false := R4.out.frozen 1
  have x0 : w4.cell? ⟨g7, 0, none⟩ = some (.int .u8 x.k.kd) := X4.out.cell 0
  have x1 : w4.cell? ⟨g7, 1, none⟩ = some (.int .u64 x.k.id) := X4.out.cell 1
  go_wp2_with fail
  exact bodyPost_ret (v := .tuple #[.agg #[.int .u8 x.k.kd, .int .u64 x.k.id], .int .u64 x.t, .bool true]) (by simp [results, Try.results21, go_sem, r0, r1]) rfl ⟨rfl, Z.out _ ((kept_set (by simp)).trans' (kept_set (by simp)))⟩

theorem rs_due {w : World} {r : Nat} {G : List Nat} {L : List Tm} (h : Rs w r G L) (now : Int) (x : Tm) (b : Bool) (L' : List Tm) (hx : Du L now x b L') : Calls Try.prog 21 #[.pointer (some ⟨r, 0, none⟩), .int .u64 now] w fun e w' => e = .returned (.tuple #[.agg #[.int .u8 x.k.kd, .int .u64 x.k.id], .int .u64 x.t, .bool b]) ∧ Ru w w' r G L' := by
  rcases hx with ⟨rfl, rfl, rfl, hx⟩ | ⟨rfl, hx, ht, rfl⟩
  · refine (rdue_late h now hx).mono ?_
    rintro e w' ⟨rfl, hb⟩
    exact ⟨rfl, Ru.same h hb⟩
  · exact rdue_take h now x hx ht

end Go.Proofs.Ytkjgmimfnmilfaa.Tm5
