/-
  The queue of timers in memory: its list, its map of places; what Len, Less, Swap, Push and Pop do to it.
  Conditions: at most 256 timers.
-/
import Derived.Test.YtkjgmimfnmilfaaTmrC
import Derived.Test.YtkjgmimfnmilfaaOps
import Derived.RegionTactic
import Derived.BigRegion
import Derived.Deep.RegionLaw
namespace Go.Proofs.Ytkjgmimfnmilfaa.Tm5
open Go.RowKit Go.Proofs.Ytkjgmimfnmilfaa.Ops

/-- the blocks of a queue: itself, its map, its list's row -/
def Foot (q b : Nat) (A : Option Addr) : List Nat := q :: b :: (A.map (·.block)).toList
structure Qu (w : World) (q b : Nat) (A : Option Addr) (n c : Nat) (l : List Tm) (f : Tk → Option Nat) : Prop where
  row : Row w q 59 #[.slice A n c, .map (some b)]
  ls : Ls 61 w (.slice A n c) l
  len : l.length = n
  mp : Mp w b f
  ok : ∀ x ∈ l, x.ok
  lim : n ≤ 256

theorem Qu.at0 {w : World} {q b : Nat} {A : Option Addr} {n c : Nat} {l : List Tm} {f : Tk → Option Nat} (h : Qu w q b A n c l f) (hn : 0 < n) :
    ∃ g rest, A = some ⟨g, 0, none⟩ ∧ Row w g 61 (cv l ++ rest).toArray ∧ n ≤ c ∧ c ≤ maxLen ∧ (cv l ++ rest).length = c * 3 ∧ g ≠ q ∧ g ≠ b := by
  rcases h.ls.row with ⟨e, h0⟩ | ⟨g, cap, rest, e, hr, hc, hm, hs⟩
  · subst h0
    have := h.len
    simp at this
    omega
  · injection e with e1 e2 e3
    subst e1 e3
    exact ⟨g, rest, rfl, hr, by rw [← h.len]; exact hc, hm, hs, row_ne hr h.row (by decide), (h.mp.ne hr).symm⟩
theorem Qu.kept {w w' : World} {q b : Nat} {A : Option Addr} {n c : Nat} {l : List Tm} {f : Tk → Option Nat} {F : List Nat} (h : Qu w q b A n c l f) (k : Kept F w w') (hF : ∀ x ∈ Foot q b A, x ∉ F) : Qu w' q b A n c l f := by
  refine ⟨row_kept h.row k (hF q (by simp [Foot])), h.ls.kept k (fun g hg => hF g ?_), h.len, h.mp.kept k (hF b (by simp [Foot])), h.ok, h.lim⟩
  cases A with
  | none => simp [Value.ownBlock] at hg
  | some a => simp [Value.ownBlock] at hg; simp [Foot, hg]
theorem Qu.keep {w w' : World} {q b : Nat} {A : Option Addr} {n c : Nat} {l : List Tm} {f : Tk → Option Nat} (h : Qu w q b A n c l f) (k : Below w.heap.size w w') : Qu w' q b A n c l f := h.kept (F := []) (kept_below k) (by simp)
theorem Qu.drew {w : World} {q b : Nat} {A : Option Addr} {n c : Nat} {l : List Tm} {f : Tk → Option Nat} (h : Qu w q b A n c l f) : Qu w.drew q b A n c l f := h.kept (kept_drew [] w) (by simp)

theorem qlen_any {w : World} {q b : Nat} {A : Option Addr} {n c : Nat} {l : List Tm} {f : Tk → Option Nat} (h : Qu w q b A n c l f) :
    Calls Try.prog 29 #[.pointer (some ⟨q, 0, none⟩)] w fun e w' => e = .returned (.int .i64 n) ∧ w = w' := by
  have c0 : w.cell? ⟨q, 0, none⟩ = some (.slice A n c) := h.row.cell 0
  clear h
  go_enter Try.func29, Try.ntmps29
  go_wp2
  go_ret
  exact ⟨rfl, rfl⟩

theorem less_any {w : World} {q b : Nat} {A : Option Addr} {n c : Nat} {l : List Tm} {f : Tk → Option Nat} (h : Qu w q b A n c l f) (i j : Nat) (hi : i < n) (hj : j < n) :
    Calls Try.prog 52 #[.pointer (some ⟨q, 0, none⟩), .int .i64 i, .int .i64 j] w fun e w' => e = .returned (.bool (lt (ix l i) (ix l j))) ∧ Below w.heap.size w w' := by
  have hlim := h.lim
  have hlen := h.len
  have c0 : w.cell? ⟨q, 0, none⟩ = some (.slice A n c) := h.row.cell 0
  obtain ⟨g, rest, rfl, hr, _⟩ := h.at0 (by omega)
  have i0 : w.cell? ⟨g, i * 3, none⟩ = some (.int .u8 (ix l i).k.kd) := cell_get hr (by omega) 0 (by omega)
  have i1 : w.cell? ⟨g, i * 3 + 1, none⟩ = some (.int .u64 (ix l i).k.id) := cell_get hr (by omega) 1 (by omega)
  have i2 : w.cell? ⟨g, i * 3 + 2, none⟩ = some (.int .u64 (ix l i).t) := cell_get hr (by omega) 2 (by omega)
  have j0 : w.cell? ⟨g, j * 3, none⟩ = some (.int .u8 (ix l j).k.kd) := cell_get hr (by omega) 0 (by omega)
  have j1 : w.cell? ⟨g, j * 3 + 1, none⟩ = some (.int .u64 (ix l j).k.id) := cell_get hr (by omega) 1 (by omega)
  have j2 : w.cell? ⟨g, j * 3 + 2, none⟩ = some (.int .u64 (ix l j).t) := cell_get hr (by omega) 2 (by omega)
  clear hr hlen h
  generalize ix l i = x at *
  generalize ix l j = y at *
  obtain ⟨z, hz⟩ : ∃ z, lt x y = z := ⟨_, rfl⟩
  have hd : decide (cm x y < 0) = z := by rw [← hz]; exact Bool.eq_iff_iff.2 (by rw [decide_eq_true_iff, cm_lt])
  rw [hz]
  clear hz
  go_enter Try.func52, Try.ntmps52
  go_wp2_with fail
  go_still_tail 14, (by kernel_rfl)
  change wpList _ _ _ _ _ w.drew
  clear i0 i1 i2 j0 j1 j2 c0
  go_wp2_with fail
  refine (compare_any x y _).mono ?_
  rintro e w1 ⟨rfl, h1⟩
  have H1 : Hid (Below w.heap.size w w1) := (below_still (Below.refl _ w) ⟨1, rfl⟩).trans h1
  clear h1
  go_wp2_with fail
  go_ret
  exact ⟨rfl, H1.out⟩

theorem ix_sw_i {l : List Tm} {i j : Nat} (hi : i < l.length) (hj : j < l.length) : ix (sw l i j) i = ix l j := by
  rw [ix_sw hi hj]
  split
  · rename_i e; rw [e]
  · rw [if_pos rfl]
theorem ix_sw_j {l : List Tm} {i j : Nat} (hi : i < l.length) (hj : j < l.length) : ix (sw l i j) j = ix l i := by rw [ix_sw hi hj, if_pos rfl]

theorem cv_set3 {l : List Tm} {i : Nat} {x : Tm} {rest : List Value} (h : i < l.length) : (((cv l ++ rest).set (i * 3) (.int .u8 x.k.kd)).set (i * 3 + 1) (.int .u64 x.k.id)).set (i * 3 + 2) (.int .u64 x.t) = cv (l.set i x) ++ rest := by
  have hs : i < (l.set i x).length := by simpa using h
  have e2 : cv (l.set i x) = cv (l.take i) ++ (tv x ++ cv (l.drop (i + 1))) := by
    rw [cv_split hs, ix_set h, if_pos rfl, List.take_set_of_le (Nat.le_refl _), List.drop_set_of_lt (by omega)]
  have hl := take_len h
  rw [e2, cv_split h]
  generalize cv (l.take i) = P at *
  rw [← hl]
  simp [List.set_append_right, tv]
theorem set3 {w : World} {g i : Nat} {T : TypeId} {l : List Tm} {rest : List Value} {x : Tm} (hr : Row w g T (cv l ++ rest).toArray) (hi : i < l.length) :
    ((w.setCell ⟨g, i * 3, none⟩ (.int .u8 x.k.kd)).setCell ⟨g, i * 3 + 1, none⟩ (.int .u64 x.k.id)).setCell ⟨g, i * 3 + 2, none⟩ (.int .u64 x.t) = w.setRow g (cv (l.set i x) ++ rest).toArray := by
  have h1 := hr.set (i * 3) (.int .u8 x.k.kd)
  have h2 := h1.set (i * 3 + 1) (.int .u64 x.k.id)
  rw [setCell_eq_setRow _ g _ _ _ _ _ h2, setCell_eq_setRow _ g _ _ _ _ _ h1, setCell_eq_setRow _ g _ _ _ _ _ hr, setRow_setRow, setRow_setRow]
  congr 1
  rw [List.setIfInBounds_toArray, List.setIfInBounds_toArray, List.setIfInBounds_toArray, cv_set3 hi]

/-- two of the list change places, and the map follows -/
def Sk (f : Tk → Option Nat) (l : List Tm) (i j : Nat) : Tk → Option Nat := upd (upd f (ix l j).k (some i)) (ix l i).k (some j)
set_option maxHeartbeats 1000000 in
theorem swap_any {w : World} {q b : Nat} {A : Option Addr} {n c : Nat} {l : List Tm} {f : Tk → Option Nat} (h : Qu w q b A n c l f) (i j : Nat) (hi : i < n) (hj : j < n) (hij : i ≠ j) :
    Calls Try.prog 55 #[.pointer (some ⟨q, 0, none⟩), .int .i64 i, .int .i64 j] w
      fun e w' => e = .returned (.tuple #[]) ∧ Qu w' q b A n c (sw l i j) (Sk f l i j) ∧ Kept (Foot q b A) w w' := by
  have hlim := h.lim
  have hlen := h.len
  have H := veil h
  have c0 : w.cell? ⟨q, 0, none⟩ = some (.slice A n c) := h.row.cell 0
  obtain ⟨g, rest, rfl, hr, hc1, hc2, hc3, hgq, hgb⟩ := h.at0 (by omega)
  have R0 : Hid (Row w.drew g 61 (cv l ++ rest).toArray) := hr
  have i0 : w.cell? ⟨g, i * 3, none⟩ = some (.int .u8 (ix l i).k.kd) := cell_get hr (by omega) 0 (by omega)
  have i1 : w.cell? ⟨g, i * 3 + 1, none⟩ = some (.int .u64 (ix l i).k.id) := cell_get hr (by omega) 1 (by omega)
  have i2 : w.cell? ⟨g, i * 3 + 2, none⟩ = some (.int .u64 (ix l i).t) := cell_get hr (by omega) 2 (by omega)
  have j0 : w.cell? ⟨g, j * 3, none⟩ = some (.int .u8 (ix l j).k.kd) := cell_get hr (by omega) 0 (by omega)
  have j1 : w.cell? ⟨g, j * 3 + 1, none⟩ = some (.int .u64 (ix l j).k.id) := cell_get hr (by omega) 1 (by omega)
  have j2 : w.cell? ⟨g, j * 3 + 2, none⟩ = some (.int .u64 (ix l j).t) := cell_get hr (by omega) 2 (by omega)
  have R1 := veil (rowSet R0.out (cv (l.set i (ix l j)) ++ rest).toArray)
  have R2 := veil (rowSet R1.out (cv ((l.set i (ix l j)).set j (ix l i)) ++ rest).toArray)
  have K2 := veil (((kept_drew [g] w).trans' (kept_setRow (cs := (cv (l.set i (ix l j)) ++ rest).toArray) (g := g) (by simp))).trans' (kept_setRow (cs := (cv ((l.set i (ix l j)).set j (ix l i)) ++ rest).toArray) (g := g) (by simp)))
  have W2 : Hid ((((((((w.setCell ⟨g, i * 3, none⟩ (.int .u8 (ix l j).k.kd)).setCell ⟨g, i * 3 + 1, none⟩ (.int .u64 (ix l j).k.id)).setCell ⟨g, i * 3 + 2, none⟩ (.int .u64 (ix l j).t)).setCell ⟨g, j * 3, none⟩ (.int .u8 (ix l i).k.kd)).setCell ⟨g, j * 3 + 1, none⟩ (.int .u64 (ix l i).k.id)).setCell ⟨g, j * 3 + 2, none⟩ (.int .u64 (ix l i).t))).drew = (w.drew.setRow g (cv (l.set i (ix l j)) ++ rest).toArray).setRow g (cv ((l.set i (ix l j)).set j (ix l i)) ++ rest).toArray) := by
    show _ = _
    rw [← set3 R1.out (by simp; omega), ← set3 R0.out (by omega)]
    simp only [World.setCell_drew]
  have fi0 : w.frozen? ⟨g, i * 3, none⟩ = false := hr.frozen _
  have fi1 : w.frozen? ⟨g, i * 3 + 1, none⟩ = false := hr.frozen _
  have fi2 : w.frozen? ⟨g, i * 3 + 2, none⟩ = false := hr.frozen _
  have fj0 : w.frozen? ⟨g, j * 3, none⟩ = false := hr.frozen _
  have fj1 : w.frozen? ⟨g, j * 3 + 1, none⟩ = false := hr.frozen _
  have fj2 : w.frozen? ⟨g, j * 3 + 2, none⟩ = false := hr.frozen _
  generalize (w.drew.setRow g (cv (l.set i (ix l j)) ++ rest).toArray).setRow g (cv ((l.set i (ix l j)).set j (ix l i)) ++ rest).toArray = w2 at W2 R2 K2
  have RQ := veil (row_kept H.out.row K2.out (by simp; omega))
  have M2 := veil (H.out.mp.kept K2.out (by simp; omega))
  have hx := veil (H.out.ok _ (ix_mem (show i < l.length by omega)))
  have hy := veil (H.out.ok _ (ix_mem (show j < l.length by omega)))
  have hL : (l.set i (ix l j)).set j (ix l i) = sw l i j := rfl
  rw [hL] at R2
  have LS := veil (ls_mk R2.out (cap := c) (by rw [sw_length]; omega) hc2 (by rw [← hc3]; simp [cv_length, sw_length]))
  have LL := veil (sw_length l i j)
  rw [LL.out, hlen] at LS
  have e0 : w2.cell? ⟨g, i * 3, none⟩ = some (.int .u8 (ix l j).k.kd) := by have := cell_get R2.out (i := i) (by rw [sw_length]; omega) 0 (by omega); rw [ix_sw_i (by omega) (by omega)] at this; exact this
  have e1 : w2.cell? ⟨g, i * 3 + 1, none⟩ = some (.int .u64 (ix l j).k.id) := by have := cell_get R2.out (i := i) (by rw [sw_length]; omega) 1 (by omega); rw [ix_sw_i (by omega) (by omega)] at this; exact this
  have f0 : w2.cell? ⟨g, j * 3, none⟩ = some (.int .u8 (ix l i).k.kd) := by have := cell_get R2.out (i := j) (by rw [sw_length]; omega) 0 (by omega); rw [ix_sw_j (by omega) (by omega)] at this; exact this
  have f1 : w2.cell? ⟨g, j * 3 + 1, none⟩ = some (.int .u64 (ix l i).k.id) := by have := cell_get R2.out (i := j) (by rw [sw_length]; omega) 1 (by omega); rw [ix_sw_j (by omega) (by omega)] at this; exact this
  have E := veil (And.intro (And.intro e0 e1) (And.intro f0 f1))
  have OK : Hid (∀ x ∈ sw l i j, x.ok) := fun x hx => H.out.ok x ((sw_mem (by omega) (by omega) x).1 hx)
  have G := veil (show g ≠ q ∧ g ≠ b ∧ b ≠ q from ⟨hgq, hgb, H.out.mp.ne H.out.row⟩)
  have HL := veil hlen
  clear e0 e1 f0 f1 hL R1 R0 hr h hgb hc1 hc2 hc3 hlen
  unfold Sk
  generalize ix l i = x at *
  generalize ix l j = y at *
  generalize sw l i j = L at *
  go_enter Try.func55, Try.ntmps55
  go_wp2_with fail
  have n01 : i * 3 ≠ j * 3 + 1 := by omega
  have n02 : i * 3 ≠ j * 3 + 2 := by omega
  have n10 : i * 3 + 1 ≠ j * 3 := by omega
  have n12 : i * 3 + 1 ≠ j * 3 + 2 := by omega
  have n20 : i * 3 + 2 ≠ j * 3 := by omega
  have n21 : i * 3 + 2 ≠ j * 3 + 1 := by omega
  have hji : j ≠ i := hij.symm
  go_region
  rw [W2.out]
  clear W2 i0 i1 i2 j0 j1 j2 fi0 fi1 fi2 fj0 fj1 fj2 c0 n01 n02 n10 n12 n20 n21 hji hij
  have D2 : Hid (Row w2.drew q 59 #[.slice (some ⟨g, 0, none⟩) n c, .map (some b)]) := RQ
  have D3 : Hid (Row w2.drew g 61 (cv L ++ rest).toArray) := R2
  obtain ⟨w3, hrun3, m3, g3⟩ := (M2.out.kept (kept_drew [] w2) (by simp)).store hy.out.k i
  have k3 : Kept [b] w2 w3 := (kept_drew [b] w2).trans' (kept_gb g3 (by simp))
  have RQ3 := veil (row_kept RQ.out k3 (by simp; exact fun e => G.out.2.2 e.symm))
  have R3 := veil (row_kept R2.out k3 (by simp; exact G.out.2.1))
  have U3 := veil hrun3
  have M3 := veil m3
  have K3 := veil k3
  have c0 : w2.cell? ⟨q, 0, none⟩ = some (.slice (some ⟨g, 0, none⟩) n c) := RQ.out.cell 0
  have c1 : w2.cell? ⟨q, 1, none⟩ = some (.map (some b)) := RQ.out.cell 1
  have e0 := E.out.1.1
  have e1 := E.out.1.2
  have hf0 : w3.cell? ⟨g, j * 3, none⟩ = some (.int .u8 x.k.kd) := cell_kept E.out.2.1 k3 (by simp; exact G.out.2.1)
  have hf1 : w3.cell? ⟨g, j * 3 + 1, none⟩ = some (.int .u64 x.k.id) := cell_kept E.out.2.2 k3 (by simp; exact G.out.2.1)
  have F0 := veil hf0
  have F1 := veil hf1
  clear hrun3 m3 g3 k3 hf0 hf1
  go_wp2_with fail
  go_still_tail 13, (by kernel_rfl)
  change wpList _ _ _ _ _ w2.drew
  clear c0 c1 e0 e1 E
  go_wp2_with (first | (refine wpList_update_of rfl (.tmp 35) (.tmp 43) (.tmp 44) rfl rfl rfl rfl U3.out ?_))
  obtain ⟨w4, hrun4, m4, g4⟩ := (M3.out.kept (kept_drew [] w3) (by simp)).store hx.out.k j
  have k4 : Kept [b] w3 w4 := (kept_drew [b] w3).trans' (kept_gb g4 (by simp))
  have RQ4 := veil (row_kept RQ3.out k4 (by simp; exact fun e => G.out.2.2 e.symm))
  have KF := veil (K3.out.trans' k4)
  have U4 := veil hrun4
  have M4 := veil m4
  have c0 : w3.cell? ⟨q, 0, none⟩ = some (.slice (some ⟨g, 0, none⟩) n c) := RQ3.out.cell 0
  have c1 : w3.cell? ⟨q, 1, none⟩ = some (.map (some b)) := RQ3.out.cell 1
  have e0 := F0.out
  have e1 := F1.out
  clear hrun4 m4 g4 k4 F0 F1 U3 K3
  go_still_tail 13, (by kernel_rfl)
  change wpList _ _ _ _ _ w3.drew
  clear c0 c1 e0 e1
  go_wp2_with (first | (refine wpList_update_of rfl (.tmp 48) (.tmp 56) (.tmp 57) rfl rfl rfl rfl U4.out ?_))
  go_end0
  refine ⟨rfl, ⟨RQ4.out, LS.out.kept KF.out (fun z hz => by simp [Value.ownBlock] at hz; subst hz; simp; exact G.out.2.1), by rw [LL.out, HL.out], M4.out, OK.out, hlim⟩, (K2.out.mono (by simp [Foot])).trans' (KF.out.mono (by simp [Foot]))⟩

end Go.Proofs.Ytkjgmimfnmilfaa.Tm5
