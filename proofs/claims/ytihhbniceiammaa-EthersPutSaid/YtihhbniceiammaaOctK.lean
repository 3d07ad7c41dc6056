/-
  A cutter, said as a whole: what each call answers of it, and what becomes of it (OctCt without the examples).
  Conditions: a cutter lies in a block of its own; its bytes lie in another one.
-/
import Derived.Test.YtihhbniceiammaaOctFn
namespace Go.Proofs.Ytihhbniceiammaa
open Go.RowKit

/-- a sound cutter at block g, whose bytes zs stand at place o of block b, with room c -/
structure Cut (w : World) (g b o c : Nat) (zs : List Int) : Prop where
  row : Row w g 66 #[.slice (some ⟨b, o, none⟩) zs.length c, .bool true]
  rd : Rd w (some ⟨b, o, none⟩) zs
  cap : zs.length ≤ c
  byt : Byt zs
  ne : b ≠ g

/-- a spoilt one -/
def Spoilt (w : World) (g : Nat) : Prop := Row w g 66 #[.slice none 0 0, .bool false]

def step (o c k : Nat) : Nat := if c = k then o else o + k

theorem Cut.keep {w w' : World} {g b o c : Nat} {zs : List Int} (h : Cut w g b o c zs) (hb : Below w.heap.size w w') : Cut w' g b o c zs :=
  ⟨h.row.keep hb, h.rd.keep hb, h.cap, h.byt, h.ne⟩

theorem Cut.drewN {w : World} {g b o c : Nat} {zs : List Int} (h : Cut w g b o c zs) (q : Nat) : Cut (w.drewN q) g b o c zs := ⟨h.row, h.rd, h.cap, h.byt, h.ne⟩

theorem Cut.next {w : World} {g b o c : Nat} {zs : List Int} (h : Cut w g b o c zs) (k : Nat) (hk : k ≤ zs.length) :
    Cut (w.setCell ⟨g, 0, none⟩ (.slice (cutA (some ⟨b, o, none⟩) c k) (zs.length - k) (c - k))) g b (step o c k) (c - k) (zs.drop k) := by
  have hc := h.cap
  have e : cutA (some ⟨b, o, none⟩) c k = some ⟨b, step o c k, none⟩ := by
    unfold cutA step
    split
    · rfl
    · simp [Addr.add]
  rw [e]
  refine ⟨?_, ?_, by simp; omega, h.byt.drop k, h.ne⟩
  · have := h.row.set 0 (.slice (some ⟨b, step o c k, none⟩) (zs.length - k) (c - k))
    simpa using this
  · unfold step
    split
    · rename_i e
      intro j hj
      simp at hj
      omega
    · exact (h.rd.drop k).far (fun a ha => by injection ha with ha; subst ha; exact h.ne) 0 _

theorem spoilt_row {w : World} {g : Nat} {x y : Value} (h : Row w g 66 #[x, y]) : Spoilt ((w.setCell ⟨g, 0, none⟩ (.slice none 0 0)).setCell ⟨g, 1, none⟩ (.bool false)) g := by
  have := (h.set 0 (.slice none 0 0)).set 1 (.bool false)
  simpa [Spoilt] using this

/-- an answer, and what became of the cutter, which lies in block g -/
def After (P : World → Prop) (g : Nat) (w : World) (v : Value) (e : Ending) (w' : World) : Prop := e = .returned v ∧ w.grownBy w' (some g) ∧ P w'

section
variable {w : World} {g b o c : Nat} {zs : List Int}
theorem Cut.num_ (h : Cut w g b o c zs) (k : Nat) (h1 : 1 ≤ k) (h8 : k ≤ 8) (hk : k ≤ zs.length) :
    Calls Try.prog 29 #[.pointer (some ⟨g, 0, none⟩), .int .i64 k] w (After (Cut · g b (step o c k) (c - k) (zs.drop k)) g w (.int .u64 (num (zs.take k)))) :=
  (num_in g zs.length c k _ zs w h.row hk h.cap h1 h8 rfl h.byt h.rd (fun a ha => by injection ha with ha; subst ha; exact h.ne)).mono fun _ _ ⟨he, hw⟩ => ⟨he, by subst hw; exact gb_set _ _ _ _, by subst hw; exact h.next k hk⟩
theorem Cut.num_over (h : Cut w g b o c zs) (k : Int) (hk : k < 1 ∨ 8 < k ∨ (zs.length : Int) < k) :
    Calls Try.prog 29 #[.pointer (some ⟨g, 0, none⟩), .int .i64 k] w (After (Spoilt · g) g w (.int .u64 0)) :=
  (_root_.Go.Proofs.Ytihhbniceiammaa.num_over g zs.length c _ k w h.row hk).mono fun _ _ ⟨he, hw⟩ => ⟨he, by subst hw; exact gb_trans (gb_set _ _ _ _) (gb_set _ _ _ _), by subst hw; exact spoilt_row h.row⟩
theorem Cut.bytes_ (h : Cut w g b o c zs) (k : Nat) (hk : k ≤ zs.length) :
    Calls Try.prog 28 #[.pointer (some ⟨g, 0, none⟩), .int .i64 k] w (After (Cut · g b (step o c k) (c - k) (zs.drop k)) g w (.slice (some ⟨b, o, none⟩) k k)) :=
  (bytes_in g zs.length c k _ w h.row hk h.cap).mono fun _ _ ⟨he, hw⟩ => ⟨he, by subst hw; exact gb_set _ _ _ _, by subst hw; exact h.next k hk⟩
theorem Cut.bytes_over (h : Cut w g b o c zs) (k : Int) (hk : k < 0 ∨ (zs.length : Int) < k) :
    Calls Try.prog 28 #[.pointer (some ⟨g, 0, none⟩), .int .i64 k] w (After (Spoilt · g) g w (.slice none 0 0)) :=
  (_root_.Go.Proofs.Ytihhbniceiammaa.bytes_over g zs.length c _ k w h.row hk).mono fun _ _ ⟨he, hw⟩ => ⟨he, by subst hw; exact gb_trans (gb_set _ _ _ _) (gb_set _ _ _ _), by subst hw; exact spoilt_row h.row⟩
theorem Cut.rest_ (h : Cut w g b o c zs) :
    Calls Try.prog 30 #[.pointer (some ⟨g, 0, none⟩)] w (After (Cut · g b (step o c zs.length) (c - zs.length) []) g w (.slice (some ⟨b, o, none⟩) zs.length zs.length)) :=
  (rest_at g zs.length c _ w h.row h.cap).mono fun _ _ ⟨he, hw⟩ => ⟨he, by subst hw; exact gb_set _ _ _ _, by subst hw; simpa using h.next zs.length (Nat.le_refl _)⟩
theorem Cut.left_ (h : Cut w g b o c zs) :
    Calls Try.prog 35 #[.pointer (some ⟨g, 0, none⟩)] w fun e w' => e = .returned (.int .i64 zs.length) ∧ w = w' := left_at g _ _ _ _ w h.row
theorem Cut.bad_ (h : Cut w g b o c zs) :
    Calls Try.prog 33 #[.pointer (some ⟨g, 0, none⟩)] w fun e w' => e = .returned (.bool false) ∧ w = w' := bad_at g _ _ w h.row

theorem Spoilt.num_ (h : Spoilt w g) (k : Int) :
    Calls Try.prog 29 #[.pointer (some ⟨g, 0, none⟩), .int .i64 k] w fun e w' => e = .returned (.int .u64 0) ∧ w = w' := num_bad g k w h
theorem Spoilt.drewN (h : Spoilt w g) (q : Nat) : Spoilt (w.drewN q) g := h
theorem Spoilt.bytes_ (h : Spoilt w g) (k : Int) :
    Calls Try.prog 28 #[.pointer (some ⟨g, 0, none⟩), .int .i64 k] w fun e w' => e = .returned (.slice none 0 0) ∧ w = w' := bytes_bad g _ k w h
theorem Spoilt.rest_ (h : Spoilt w g) :
    Calls Try.prog 30 #[.pointer (some ⟨g, 0, none⟩)] w fun e w' => e = .returned (.slice none 0 0) ∧ w = w' := rest_bad g _ _ _ w h
theorem Spoilt.left_ (h : Spoilt w g) :
    Calls Try.prog 35 #[.pointer (some ⟨g, 0, none⟩)] w fun e w' => e = .returned (.int .i64 0) ∧ w = w' := left_at g _ _ _ _ w h
theorem Spoilt.bad_ (h : Spoilt w g) :
    Calls Try.prog 33 #[.pointer (some ⟨g, 0, none⟩)] w fun e w' => e = .returned (.bool true) ∧ w = w' := bad_at g _ _ w h
end

/-- a new cutter: its bytes in the first new block, itself in the second -/
def NewCut (w : World) (zs : List Int) (e : Ending) (w' : World) : Prop :=
  e = .returned (.pointer (some ⟨w.heap.size + 1, 0, none⟩)) ∧ Cut w' (w.heap.size + 1) w.heap.size 0 zs.length zs ∧ Below w.heap.size w w' ∧ w'.heap.size = w.heap.size + 2 ∧ Row w' w.heap.size 5 (bv zs).toArray

theorem of_new (A : Option Addr) (n c : Nat) (zs : List Int) (w : World) (hl : zs.length = n) (hn : n ≤ 16777216) (hz : Byt zs) (hr : Rd w A zs) :
    Calls Try.prog 27 #[.slice A n c] w (NewCut w zs) :=
  (of_any A n c zs w hl hn hr).mono fun _ _ ⟨he, hw⟩ => by
    subst hw
    subst hl
    have r0 : Row ((w.alloc (.cells (bv zs).toArray 5)).alloc (.cells #[.slice (some ⟨w.heap.size, 0, none⟩) zs.length zs.length, .bool true] 66)) w.heap.size 5 (bv zs).toArray := heap_alloc2_old w _ _
    refine ⟨he, ⟨?_, ?_, Nat.le_refl _, hz, by omega⟩, ?_, by simp, r0⟩
    · exact heap_alloc2_new w _ _
    · exact rd_row r0 (fun j hj => by rw [Nat.zero_add]; exact bv_get zs j hj)
    · exact ((Below.refl _ _).alloc (Nat.le_refl _) _).alloc (by simp) _

theorem put_int (A : Option Addr) (m c : Nat) (zs : List Int) (n kI : Int) (k : Nat) (w : World) (hl : zs.length = m) (hm : m ≤ 16000000) (hr : Rd w A zs) (hk : kI = k) (h1 : 1 ≤ k) (h8 : k ≤ 8) :
    Calls Try.prog 23 #[.slice A m c, .int .u64 n, .int .i64 kI] w fun e w' => e = .returned (.slice (some ⟨w.heap.size, 0, none⟩) (m + k) (m + k)) ∧
      w.alloc (.cells (bv (zs ++ be n k)).toArray 5) = w' := by
  subst hk
  exact put_yes A m c zs n k w hl hm hr h1 h8

end Go.Proofs.Ytihhbniceiammaa
