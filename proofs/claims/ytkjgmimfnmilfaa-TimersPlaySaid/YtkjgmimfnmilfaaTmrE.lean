/-
  A list of acts in a row of its own; what the law's ahead answers.
  Conditions: none.
-/
import Derived.Test.YtkjgmimfnmilfaaTmrA
import Derived.Test.YtkjgmimfnmilfaaTmrC
namespace Go.Proofs.Ytkjgmimfnmilfaa.Tm5
open Go.RowKit

def cd (l : List Deed) : List Value := l.flatMap dv
def dx (l : List Deed) (i : Nat) : Deed := l.getD i default
theorem cd_length (l : List Deed) : (cd l).length = l.length * 4 := by
  induction l with
  | nil => rfl
  | cons x l ih => simp only [cd, List.flatMap_cons, List.length_append] at ih ⊢; rw [ih]; simp [dv]; omega
theorem cd_append (l m : List Deed) : cd (l ++ m) = cd l ++ cd m := by simp [cd]
theorem cd_split {l : List Deed} {i : Nat} (h : i < l.length) : cd l = cd (l.take i) ++ (dv (dx l i) ++ cd (l.drop (i + 1))) := by
  have e : l = l.take i ++ (dx l i :: l.drop (i + 1)) := by
    have hx : dx l i = l[i] := by unfold dx; rw [List.getD_eq_getElem?_getD, List.getElem?_eq_getElem h]; rfl
    rw [hx, List.getElem_cons_drop, List.take_append_drop]
  conv => lhs; rw [e]
  rw [cd_append]
  simp [cd]
theorem cd_get {l : List Deed} {i j : Nat} {rest : List Value} (h : i < l.length) (hj : j < 4) : (cd l ++ rest)[i * 4 + j]? = (dv (dx l i))[j]? := by
  have tl : (cd (l.take i)).length = i * 4 := by rw [cd_length, List.length_take, Nat.min_eq_left (by omega)]
  rw [cd_split h, List.append_assoc, List.getElem?_append_right (by rw [tl]; omega), tl, List.append_assoc, List.getElem?_append_left (by simp [dv]; omega)]
  congr 1
  omega
/-- a list of acts in a slice whose row is the call's own -/
def Ld (w : World) (v : Value) (l : List Deed) : Prop := w.ownsRow 0 35 4 v l.length (cd l)
theorem Ld.row {w : World} {v : Value} {l : List Deed} (h : Ld w v l) :
    (v = .slice none 0 0 ∧ l = []) ∨ ∃ g cap rest, v = .slice (some ⟨g, 0, none⟩) l.length cap ∧ Row w g 35 (cd l ++ rest).toArray ∧ l.length ≤ cap ∧ cap ≤ maxLen ∧ (cd l ++ rest).length = cap * 4 := by
  rcases h.2 with ⟨rfl, h0⟩ | ⟨g, cap, cur, rfl, _, hg, hc, hm, hs, ht⟩
  · exact .inl ⟨rfl, List.eq_nil_of_length_eq_zero h0⟩
  · have e : cd l ++ cur.toList.drop (l.length * 4) = cur.toList := by rw [← ht, List.take_append_drop]
    refine .inr ⟨g, cap, cur.toList.drop (l.length * 4), rfl, ?_, hc, hm, ?_⟩
    · rw [e]
      exact hg
    · rw [e]
      simpa using hs
theorem ld_mk {w : World} {g cap : Nat} {l : List Deed} {rest : List Value} (hr : Row w g 35 (cd l ++ rest).toArray) (hc : l.length ≤ cap) (hm : cap ≤ maxLen) (hs : (cd l ++ rest).length = cap * 4) :
    Ld w (.slice (some ⟨g, 0, none⟩) l.length cap) l :=
  ⟨cd_length l, .inr ⟨g, cap, _, rfl, Nat.zero_le _, hr, hc, hm, by simpa using hs, by simp [← cd_length]⟩⟩
theorem ld_nil (w : World) : Ld w (.slice none 0 0) [] := World.ownsRow_nil w 0 _ 4
theorem Ld.kept {w w' : World} {v : Value} {l : List Deed} {F : List Nat} (h : Ld w v l) (k : Kept F w w') (hF : ∀ g, v.ownBlock = some g → g ∉ F) : Ld w' v l := by
  rcases h.row with ⟨rfl, rfl⟩ | ⟨g, cap, rest, rfl, hr, hc, hm, hs⟩
  · exact ld_nil w'
  · exact ld_mk (row_kept hr k (hF g rfl)) hc hm hs
theorem Ld.keep {w w' : World} {v : Value} {l : List Deed} (h : Ld w v l) (k : Below w.heap.size w w') : Ld w' v l := h.kept (F := []) (kept_below k) (by simp)
theorem Ld.slice {w : World} {v : Value} {l : List Deed} (h : Ld w v l) : ∃ A c, v = .slice A l.length c ∧ l.length ≤ c := by
  rcases h.row with ⟨rfl, rfl⟩ | ⟨g, cap, rest, rfl, _, hc, _⟩
  · exact ⟨none, 0, rfl, Nat.le_refl _⟩
  · exact ⟨_, cap, rfl, hc⟩
theorem Ld.lt {w : World} {v : Value} {l : List Deed} (h : Ld w v l) : ∀ g, v.ownBlock = some g → g < w.heap.size := by
  intro g hg
  rcases h.row with ⟨rfl, rfl⟩ | ⟨g, cap, rest, rfl, hr, _⟩
  · simp [Value.ownBlock] at hg
  · simp [Value.ownBlock] at hg; subst hg; exact hr.lt
theorem cd_one (l : List Deed) : ∀ v ∈ cd l, v.oneCell' = true := by
  intro v hv
  obtain ⟨x, _, hx⟩ := List.mem_flatMap.1 hv
  simp [dv] at hx
  rcases hx with rfl | rfl | rfl | rfl <;> rfl
theorem cell_gd {w : World} {g i : Nat} {l : List Deed} {rest : List Value} (hr : Row w g 35 (cd l ++ rest).toArray) (hi : i < l.length) (j : Nat) (hj : j < 4) : w.cell? ⟨g, i * 4 + j, none⟩ = (dv (dx l i))[j]? := by
  rw [hr.cell, List.getElem?_toArray, cd_get hi hj]
theorem info_d : (Try.prog.info? 35).map (fun i => (i.zero, i.size, i.bytes)) = some (some (.agg #[.int .u8 0, .int .u8 0, .int .u64 0, .int .u64 0]), 4, 32) := by kernel_rfl
theorem run_mored (w : World) (ty : TypeId) (v : Value) (l m : List Deed) (h : Ld w v l) (a : Addr) (c : Nat) (hm : ∀ j u, (cd m)[j]? = some u → w.cell? (a.add j) = some u) (hn : l.length + m.length ≤ 16777216) :
    ∃ v' w', (Builtin.append_ #[22, 22] ty #[v, .slice (some a) m.length c]).run Try.prog w = .ok v' w' ∧ Ld w' v' (l ++ m) ∧ w.grownBy w' v.ownBlock ∧ (v'.ownBlock = v.ownBlock ∨ v'.ownBlock = some w.heap.size) := by
  obtain ⟨i, hi, hz0, hz1, hz2⟩ := info_parts info_d
  obtain ⟨v', w', h1, h2, h3, _, h5⟩ := run_append_own_at (P := Try.prog) w 0 22 ty 35 i _ 4 32 Try.underlying22 hi hz0 hz1 hz2 rfl (by omega) v l.length (cd l) h a m.length c (cd m) (cd_length m) hm (cd_one m) (by unfold maxLen; omega) (by omega) (Nat.zero_le _)
  refine ⟨v', w', h1, ?_, h3, h5⟩
  unfold Ld
  rw [List.length_append, cd_append]
  exact h2

theorem ret_bool {a b : Bool} (h : a = b) : Ending.returned (.bool a) = .returned (.bool b) := by rw [h]
theorem lt_dec {x y : Tm} {p : Prop} [Decidable p] (h : p ↔ lt x y = true) : decide p = lt x y := Bool.eq_iff_iff.2 (by rw [decide_eq_true_iff]; exact h)
theorem ahead_any (a b : Deed) (w : World) : Calls Try.prog 17 #[.agg (dv a).toArray, .agg (dv b).toArray] w fun e w' => e = .returned (.bool (lt a.x b.x)) ∧ Below w.heap.size w w' := by
  show Calls _ _ #[.agg #[.int .u8 a.kd, .int .u8 a.x.k.kd, .int .u64 a.x.k.id, .int .u64 a.x.t], .agg #[.int .u8 b.kd, .int .u8 b.x.k.kd, .int .u64 b.x.k.id, .int .u64 b.x.t]] w _
  have HB := veil ((below_new w (.cells #[.int .u8 a.kd, .int .u8 a.x.k.kd, .int .u64 a.x.k.id, .int .u64 a.x.t] 35)).alloc (by simp) (.cells #[.int .u8 b.kd, .int .u8 b.x.k.kd, .int .u64 b.x.k.id, .int .u64 b.x.t] 35))
  obtain ⟨z, hz⟩ : ∃ z, lt a.x b.x = z := ⟨_, rfl⟩
  have HZ := veil hz
  rw [hz]
  clear hz
  by_cases h1 : a.x.t = b.x.t
  · have n1 : (a.x.t != b.x.t) = false := by simp [h1]
    by_cases h2 : a.x.k.kd = b.x.k.kd
    · have n2 : (a.x.k.kd != b.x.k.kd) = false := by simp [h2]
      have ed := veil (lt_dec (p := a.x.k.id < b.x.k.id) (x := a.x) (y := b.x) (by rw [lt_iff]; omega))
      clear h1 h2
      go_enter Try.func17, Try.ntmps17
      go_wp2_with fail
      go_ret
      exact ⟨ret_bool (by rw [← HZ.out]; exact ed.out), HB.out⟩
    · have n2 : (a.x.k.kd != b.x.k.kd) = true := by simp [h2]
      have ed := veil (lt_dec (p := a.x.k.kd < b.x.k.kd) (x := a.x) (y := b.x) (by rw [lt_iff]; omega))
      clear h1 h2
      go_enter Try.func17, Try.ntmps17
      go_wp2_with fail
      go_ret
      exact ⟨ret_bool (by rw [← HZ.out]; exact ed.out), HB.out⟩
  · have n1 : (a.x.t != b.x.t) = true := by simp [h1]
    have ed := veil (lt_dec (p := a.x.t < b.x.t) (x := a.x) (y := b.x) (by rw [lt_iff]; omega))
    clear h1
    go_enter Try.func17, Try.ntmps17
    go_wp2_with fail
    go_ret
    exact ⟨ret_bool (by rw [← HZ.out]; exact ed.out), HB.out⟩

end Go.Proofs.Ytkjgmimfnmilfaa.Tm5
