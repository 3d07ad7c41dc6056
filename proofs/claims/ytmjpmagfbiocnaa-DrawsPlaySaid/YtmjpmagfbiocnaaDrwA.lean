/-
  What draws' New, missing, Len answer: words that wait in an array that goes round, as a list.
  Conditions: words lie in a block of their own.
-/
import Derived.Test.YtmjpmagfbiocnaaMemBW
import Derived.Test.YtmjpmagfbiocnaaStep
namespace Go.Proofs.Ytmjpmagfbiocnaa.W32
open Go.RowKit

/-- the cells of words: the array, the place of the first, how many wait, whether New made them -/
def cl (R : List Int) (f c : Nat) (b : Bool) : List Value := bv R ++ [.int .i64 f, .int .i64 c, .bool b]
theorem cl_length (R : List Int) (f c : Nat) (b : Bool) : (cl R f c b).length = R.length + 3 := by simp [cl, bv]
theorem cl_at {R : List Int} {f c : Nat} {b : Bool} (i : Nat) (h : i < R.length) : (cl R f c b)[i]? = some (.int .u32 (R.getD i 0)) := by
  unfold cl
  rw [List.getElem?_append_left (by rw [bv_length]; exact h)]
  exact bv_get R i h
theorem cl_first {R : List Int} {f c : Nat} {b : Bool} (h : R.length = 256) : (cl R f c b)[256]? = some (.int .i64 f) := by
  unfold cl
  rw [List.getElem?_append_right (by rw [bv_length]; omega), bv_length, h]
  rfl
theorem cl_count {R : List Int} {f c : Nat} {b : Bool} (h : R.length = 256) : (cl R f c b)[257]? = some (.int .i64 c) := by
  unfold cl
  rw [List.getElem?_append_right (by rw [bv_length]; omega), bv_length, h]
  rfl
theorem cl_made {R : List Int} {f c : Nat} {b : Bool} (h : R.length = 256) : (cl R f c b)[258]? = some (.bool b) := by
  unfold cl
  rw [List.getElem?_append_right (by rw [bv_length]; omega), bv_length, h]
  rfl
theorem cl_set {R : List Int} {f c : Nat} {b : Bool} (i : Nat) (z : Int) (h : i < R.length) : (cl R f c b).set i (.int .u32 z) = cl (R.set i z) f c b := by
  unfold cl
  rw [List.set_append_left _ _ (by rw [bv_length]; exact h), bv_set]
theorem cl_set_first {R : List Int} {f c : Nat} {b : Bool} (x : Nat) (h : R.length = 256) : (cl R f c b).set 256 (.int .i64 x) = cl R x c b := by
  unfold cl
  rw [List.set_append_right _ _ (by rw [bv_length]; omega), bv_length, h]
  rfl
theorem cl_set_count {R : List Int} {f c : Nat} {b : Bool} (x : Nat) (h : R.length = 256) : (cl R f c b).set 257 (.int .i64 x) = cl R f x b := by
  unfold cl
  rw [List.set_append_right _ _ (by rw [bv_length]; omega), bv_length, h]
  rfl

/-- words at block g, as their cells -/
def Cl (w : World) (g : Nat) (R : List Int) (f c : Nat) (b : Bool) : Prop := Row w g 43 (cl R f c b).toArray ∧ R.length = 256 ∧ Byt R

theorem Cl.set {w : World} {g : Nat} {R : List Int} {f c : Nat} {b : Bool} (h : Cl w g R f c b) (i : Nat) (z : Int) (hi : i < 256) (hz : 0 ≤ z ∧ z ≤ 4294967295) : Cl (w.setCell ⟨g, i, none⟩ (.int .u32 z)) g (R.set i z) f c b := by
  refine ⟨?_, by simp [h.2.1], byt_set h.2.2 hz⟩
  have := h.1.set i (.int .u32 z)
  rwa [List.setIfInBounds_toArray, cl_set i z (by rw [h.2.1]; exact hi)] at this
theorem Cl.first {w : World} {g : Nat} {R : List Int} {f c : Nat} {b : Bool} (h : Cl w g R f c b) (x : Nat) : Cl (w.setCell ⟨g, 256, none⟩ (.int .i64 x)) g R x c b := by
  refine ⟨?_, h.2.1, h.2.2⟩
  have := h.1.set 256 (.int .i64 x)
  rwa [List.setIfInBounds_toArray, cl_set_first x h.2.1] at this
theorem Cl.count {w : World} {g : Nat} {R : List Int} {f c : Nat} {b : Bool} (h : Cl w g R f c b) (x : Nat) : Cl (w.setCell ⟨g, 257, none⟩ (.int .i64 x)) g R f x b := by
  refine ⟨?_, h.2.1, h.2.2⟩
  have := h.1.set 257 (.int .i64 x)
  rwa [List.setIfInBounds_toArray, cl_set_count x h.2.1] at this
theorem Cl.at_ {w : World} {g : Nat} {R : List Int} {f c : Nat} {b : Bool} (h : Cl w g R f c b) (i : Nat) (hi : i < 256) : w.cell? ⟨g, i, none⟩ = some (.int .u32 (R.getD i 0)) := by
  rw [h.1.cell, List.getElem?_toArray, cl_at i (by rw [h.2.1]; exact hi)]
theorem Cl.cf {w : World} {g : Nat} {R : List Int} {f c : Nat} {b : Bool} (h : Cl w g R f c b) : w.cell? ⟨g, 256, none⟩ = some (.int .i64 f) := by
  rw [h.1.cell, List.getElem?_toArray, cl_first h.2.1]
theorem Cl.cc {w : World} {g : Nat} {R : List Int} {f c : Nat} {b : Bool} (h : Cl w g R f c b) : w.cell? ⟨g, 257, none⟩ = some (.int .i64 c) := by
  rw [h.1.cell, List.getElem?_toArray, cl_count h.2.1]
theorem Cl.cm {w : World} {g : Nat} {R : List Int} {f c : Nat} {b : Bool} (h : Cl w g R f c b) : w.cell? ⟨g, 258, none⟩ = some (.bool b) := by
  rw [h.1.cell, List.getElem?_toArray, cl_made h.2.1]
theorem Cl.fr {w : World} {g : Nat} {R : List Int} {f c : Nat} {b : Bool} (h : Cl w g R f c b) (i : Nat) : w.frozen? ⟨g, i, none⟩ = false := h.1.frozen i

/-- words that New made, with these waiting -/
def Wd (w : World) (g : Nat) (q : List Int) : Prop := ∃ R f, Cl w g R f q.length true ∧ f < 256 ∧ q.length ≤ 256 ∧ ∀ i, i < q.length → R.getD ((f + i) % 256) 0 = q.getD i 0
/-- words that no call made -/
def Raw (w : World) (g : Nat) : Prop := Cl w g (List.replicate 256 0) 0 0 false

theorem Cl.keep {w w' : World} {g : Nat} {R : List Int} {f c : Nat} {b : Bool} (h : Cl w g R f c b) (hb : Below w.heap.size w w') : Cl w' g R f c b := ⟨h.1.keep hb, h.2⟩
theorem Cl.gb {w w' : World} {g : Nat} {R : List Int} {f c : Nat} {b : Bool} {r : Option Nat} (h : Cl w g R f c b) (hg : w.grownBy w' r) (hne : some g ≠ r) : Cl w' g R f c b := ⟨h.1.gb hg hne, h.2⟩
theorem Wd.keep {w w' : World} {g : Nat} {q : List Int} (h : Wd w g q) (hb : Below w.heap.size w w') : Wd w' g q := by
  obtain ⟨R, f, h1, h2⟩ := h
  exact ⟨R, f, h1.keep hb, h2⟩
theorem Wd.gb {w w' : World} {g : Nat} {q : List Int} {r : Option Nat} (h : Wd w g q) (hg : w.grownBy w' r) (hne : some g ≠ r) : Wd w' g q := by
  obtain ⟨R, f, h1, h2⟩ := h
  exact ⟨R, f, h1.gb hg hne, h2⟩
theorem Wd.lt {w : World} {g : Nat} {q : List Int} (h : Wd w g q) : g < w.heap.size := by
  obtain ⟨R, f, h1, h2⟩ := h
  exact h1.1.lt
theorem Wd.most {w : World} {g : Nat} {q : List Int} (h : Wd w g q) : q.length ≤ 256 := by
  obtain ⟨R, f, h1, h2⟩ := h
  exact h2.2.1

@[irreducible] def fresh (b : Bool) : Array Value := (cl (List.replicate 256 0) 0 0 b).toArray
theorem byt_zero (n : Nat) : Byt (List.replicate n 0) := fun z hz => by
  have := List.eq_of_mem_replicate hz
  omega
theorem wd_new (w : World) : Wd (w.alloc (.cells (fresh true) 43)) w.heap.size [] :=
  ⟨List.replicate 256 0, 0, ⟨by unfold fresh; exact row_new rfl, List.length_replicate, byt_zero _⟩, by omega, by simp, fun i hi => by simp at hi⟩
theorem raw_new (w : World) : Raw (w.alloc (.cells (fresh false) 43)) w.heap.size := ⟨by unfold fresh; exact row_new rfl, List.length_replicate, byt_zero _⟩

theorem run_build (w : World) : (Instr.build 43 #[(3, .bool true)]).run Try.prog w = .ok (.agg (fresh true)) w := by kernel_rfl
theorem run_box (w : World) (b : Bool) : (Instr.box 43 (.agg (fresh b))).run Try.prog w = .ok (.pointer (some ⟨w.heap.size, 0, none⟩)) (w.alloc (.cells (fresh b) 43)) := by kernel_rfl
theorem run_alloc (w : World) : (Instr.alloc 43 true (.tuple #[])).run Try.prog w = .ok (.pointer (some ⟨w.heap.size, 0, none⟩)) (w.alloc (.cells (fresh false) 43)) := by kernel_rfl

theorem new_any (w : World) : Calls Try.prog 9 #[] w fun e w' => e = .returned (.pointer (some ⟨w.heap.size, 0, none⟩)) ∧ w.alloc (.cells (fresh true) 43) = w' := by
  go_enter Try.func9, Try.ntmps9
  go_wp2_with (first | (refine wpList_build_of rfl 43 #[(3, .const (.bool true))] rfl #[(3, .bool true)] (by simp [Act.eval]) (run_build _) ?_) | (refine wpList_box_of rfl 43 (.tmp 1) rfl rfl (run_box _ true) ?_))
  go_ret
  exact ⟨rfl, rfl⟩

theorem missing_nil (w : World) : Calls Try.prog 21 #[.pointer none] w fun e w' => e = .returned (.bool true) ∧ w = w' := by
  go_enter Try.func21, Try.ntmps21
  go_wp2_with fail
  go_ret
  exact ⟨rfl, rfl⟩

theorem missing_cl {w : World} {g : Nat} {R : List Int} {f c : Nat} {b : Bool} (h : Cl w g R f c b) : Calls Try.prog 21 #[.pointer (some ⟨g, 0, none⟩)] w fun e w' => e = .returned (.bool (!b)) ∧ w = w' := by
  have h1 : w.cell? ⟨g, 258, none⟩ = some (.bool b) := h.cm
  clear h
  go_enter Try.func21, Try.ntmps21
  go_wp2_with fail
  go_ret
  exact ⟨rfl, rfl⟩

theorem len_nil (w : World) : Calls Try.prog 18 #[.pointer none] w fun e w' => e = .returned (.int .i64 0) ∧ w = w' := by
  go_enter Try.func18, Try.ntmps18
  go_wp2_with fail
  refine (missing_nil w).mono ?_
  rintro e w1 ⟨rfl, rfl⟩
  go_wp2_with fail
  go_ret
  exact ⟨rfl, rfl⟩

theorem len_raw {w : World} {g : Nat} (h : Raw w g) : Calls Try.prog 18 #[.pointer (some ⟨g, 0, none⟩)] w fun e w' => e = .returned (.int .i64 0) ∧ w = w' := by
  go_enter Try.func18, Try.ntmps18
  go_wp2_with fail
  refine (missing_cl h).mono ?_
  rintro e w1 ⟨rfl, rfl⟩
  go_wp2_with fail
  go_ret
  exact ⟨rfl, rfl⟩

theorem len_cl {w : World} {g : Nat} {R : List Int} {f c : Nat} (h : Cl w g R f c true) : Calls Try.prog 18 #[.pointer (some ⟨g, 0, none⟩)] w fun e w' => e = .returned (.int .i64 c) ∧ w = w' := by
  have h0 : w.cell? ⟨g, 257, none⟩ = some (.int .i64 c) := h.cc
  have H := veil h
  clear h
  go_enter Try.func18, Try.ntmps18
  go_wp2_with fail
  refine (missing_cl H.out).mono ?_
  rintro e w1 ⟨rfl, rfl⟩
  go_wp2_with fail
  go_ret
  exact ⟨rfl, rfl⟩

theorem len_any {w : World} {g : Nat} {q : List Int} (h : Wd w g q) : Calls Try.prog 18 #[.pointer (some ⟨g, 0, none⟩)] w fun e w' => e = .returned (.int .i64 q.length) ∧ w = w' := by
  obtain ⟨R, f, h1, _⟩ := h
  exact len_cl h1

end Go.Proofs.Ytmjpmagfbiocnaa.W32
