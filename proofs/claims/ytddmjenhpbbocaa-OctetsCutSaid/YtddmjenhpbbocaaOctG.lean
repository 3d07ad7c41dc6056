/-
  A cutter, said as a whole: sound with bytes that are left, or spoilt; what each call answers of it, and what becomes of it.
  Conditions: a cutter lies in a block of its own; its bytes lie in another one.
-/
import Derived.Test.YtddmjenhpbbocaaOctD
import Derived.Test.YtddmjenhpbbocaaOctF
namespace Go.Proofs.Ytddmjenhpbbocaa
open Go.RowKit

/-- a sound cutter at block g, whose bytes zs stand at place o of block b, with room c -/
structure Cut (w : World) (g b o c : Nat) (zs : List Int) : Prop where
  row : Row w g 48 #[.slice (some ⟨b, o, none⟩) zs.length c, .bool true]
  rd : Rd w (some ⟨b, o, none⟩) zs
  cap : zs.length ≤ c
  byt : Byt zs
  ne : b ≠ g
/-- a spoilt one -/
def Spoilt (w : World) (g : Nat) : Prop := Row w g 48 #[.slice none 0 0, .bool false]
def step (o c k : Nat) : Nat := if c = k then o else o + k

theorem gb_set (w : World) (g i : Nat) (u : Value) : w.grownBy (w.setCell ⟨g, i, none⟩ u) (some g) :=
  ⟨rfl, rfl, rfl, by simp [World.setCell], fun k _ hne => Below.heap_setCell w ⟨g, i, none⟩ u k (fun e => hne (by rw [e]))⟩
theorem gb_trans {a b c : World} {r : Option Nat} (h : a.grownBy b r) (k : b.grownBy c r) : a.grownBy c r :=
  ⟨k.os.trans h.os, k.tape.trans h.tape, k.output.trans h.output, Nat.le_trans h.size k.size, fun i hi hne => (k.block i (Nat.lt_of_lt_of_le hi h.size) hne).trans (h.block i hi hne)⟩
theorem gb_still {w w' : World} (h : Still w w') (r : Option Nat) : w.grownBy w' r := by
  obtain ⟨q, rfl⟩ := h
  exact ⟨rfl, rfl, rfl, Nat.le_refl _, fun _ _ _ => rfl⟩
theorem Row.gb {w w' : World} {g : Nat} {t : TypeId} {cs : Array Value} {r : Option Nat} (h : Row w g t cs) (hg : w.grownBy w' r) (hne : some g ≠ r) : Row w' g t cs := (hg.block g h.lt hne).trans h
theorem Rd.gb {w w' : World} {A : Option Addr} {zs : List Int} {r : Option Nat} (h : Rd w A zs) (hg : w.grownBy w' r) (hne : ∀ a, A = some a → some a.block ≠ r) : Rd w' A zs := by
  intro j hj
  obtain ⟨a, e, hc⟩ := h j hj
  exact ⟨a, e, hg.cell hc (by rw [block_add]; exact hne a e)⟩
theorem Rd.drop {w : World} {b o : Nat} {zs : List Int} (h : Rd w (some ⟨b, o, none⟩) zs) (k : Nat) : Rd w (some ⟨b, o + k, none⟩) (zs.drop k) := by
  intro j hj
  obtain ⟨a, e, hc⟩ := h (k + j) (by simp at hj; omega)
  injection e with e
  subst e
  refine ⟨_, rfl, ?_⟩
  rw [show ((⟨b, o + k, none⟩ : Addr).add j) = (⟨b, o, none⟩ : Addr).add (k + j) by simp [Addr.add]; split <;> split <;> simp_all <;> omega]
  simpa [List.getD] using hc
theorem Rd.below {w w' : World} {A : Option Addr} {zs : List Int} {B : Nat} (h : Rd w A zs) (hb : Below B w w') (hB : ∀ a, A = some a → a.block < B) : Rd w' A zs := by
  intro j hj
  obtain ⟨a, e, hc⟩ := h j hj
  exact ⟨a, e, by rw [hb.cell (by rw [block_add]; exact hB a e), hc]⟩
theorem Row.below {w w' : World} {g : Nat} {t : TypeId} {cs : Array Value} {B : Nat} (h : Row w g t cs) (hb : Below B w w') (hg : g < B) : Row w' g t cs := (hb.block g hg).trans h

theorem Rd.keep {w w' : World} {A : Option Addr} {zs : List Int} (h : Rd w A zs) (hb : Below w.heap.size w w') : Rd w' A zs := by
  intro j hj
  obtain ⟨a, e, hc⟩ := h j hj
  exact ⟨a, e, by rw [hb.cell (block_lt_of_cell hc), hc]⟩
theorem Row.keep {w w' : World} {g : Nat} {t : TypeId} {cs : Array Value} (h : Row w g t cs) (hb : Below w.heap.size w w') : Row w' g t cs := h.below hb h.lt
theorem Cut.keep {w w' : World} {g b o c : Nat} {zs : List Int} (h : Cut w g b o c zs) (hb : Below w.heap.size w w') : Cut w' g b o c zs :=
  ⟨h.row.keep hb, h.rd.keep hb, h.cap, h.byt, h.ne⟩
theorem below_gb {B g : Nat} {a w w' : World} (h : Below B a w) (hg : w.grownBy w' (some g)) (hB : B ≤ w.heap.size) (hr : B ≤ g) : Below B a w' :=
  h.grown hg hB (fun k e => by injection e with e; omega)
theorem below_still {B : Nat} {a w w' : World} (h : Below B a w) (hs : Still w w') : Below B a w' := by
  obtain ⟨q, rfl⟩ := hs
  exact ⟨h.os, h.tape, h.output, h.size, h.block⟩
theorem below_new (w : World) (o : Obj) : Below w.heap.size w (w.alloc o) := (Below.refl _ _).alloc (Nat.le_refl _) o

theorem Cut.drewN {w : World} {g b o c : Nat} {zs : List Int} (h : Cut w g b o c zs) (q : Nat) : Cut (w.drewN q) g b o c zs := ⟨h.row, h.rd, h.cap, h.byt, h.ne⟩

theorem Cut.next {w : World} {g b o c : Nat} {zs : List Int} (h : Cut w g b o c zs) (k : Nat) (hk : k ≤ zs.length) :
    Cut (w.setCell ⟨g, 0, none⟩ (.slice (cutA (some ⟨b, o, none⟩) c k) (zs.length - k) (c - k))) g b (step o c k) (c - k) (zs.drop k) := by
  have hc := h.cap
  have e : cutA (some ⟨b, o, none⟩) c k = some ⟨b, step o c k, none⟩ := by
    unfold cutA step
    split
    · rfl
    · simp [Addr.add]
  rw [e]
  refine ⟨?_, ?_, by simp; omega, h.byt.drop k, h.ne⟩
  · have := h.row.set 0 (.slice (some ⟨b, step o c k, none⟩) (zs.length - k) (c - k))
    simpa using this
  · unfold step
    split
    · rename_i e
      intro j hj
      simp at hj
      omega
    · exact (h.rd.drop k).far (fun a ha => by injection ha with ha; subst ha; exact h.ne) 0 _

theorem spoilt_row {w : World} {g : Nat} {x y : Value} (h : Row w g 48 #[x, y]) : Spoilt ((w.setCell ⟨g, 0, none⟩ (.slice none 0 0)).setCell ⟨g, 1, none⟩ (.bool false)) g := by
  have := (h.set 0 (.slice none 0 0)).set 1 (.bool false)
  simpa [Spoilt] using this

/-- an answer, and what became of the cutter, which lies in block g -/
def After (P : World → Prop) (g : Nat) (w : World) (v : Value) (e : Ending) (w' : World) : Prop := e = .returned v ∧ w.grownBy w' (some g) ∧ P w'

section
variable {w : World} {g b o c : Nat} {zs : List Int}
theorem Cut.num_ (h : Cut w g b o c zs) (k : Nat) (h1 : 1 ≤ k) (h8 : k ≤ 8) (hk : k ≤ zs.length) :
    Calls Try.prog 23 #[.pointer (some ⟨g, 0, none⟩), .int .i64 k] w (After (Cut · g b (step o c k) (c - k) (zs.drop k)) g w (.int .u64 (num (zs.take k)))) :=
  (num_in g zs.length c k _ zs w h.row hk h.cap h1 h8 rfl h.byt h.rd (fun a ha => by injection ha with ha; subst ha; exact h.ne)).mono fun _ _ ⟨he, hw⟩ => ⟨he, by subst hw; exact gb_set _ _ _ _, by subst hw; exact h.next k hk⟩
theorem Cut.num_over (h : Cut w g b o c zs) (k : Int) (hk : k < 1 ∨ 8 < k ∨ (zs.length : Int) < k) :
    Calls Try.prog 23 #[.pointer (some ⟨g, 0, none⟩), .int .i64 k] w (After (Spoilt · g) g w (.int .u64 0)) :=
  (_root_.Go.Proofs.Ytddmjenhpbbocaa.num_over g zs.length c _ k w h.row hk).mono fun _ _ ⟨he, hw⟩ => ⟨he, by subst hw; exact gb_trans (gb_set _ _ _ _) (gb_set _ _ _ _), by subst hw; exact spoilt_row h.row⟩
theorem Cut.bytes_ (h : Cut w g b o c zs) (k : Nat) (hk : k ≤ zs.length) :
    Calls Try.prog 24 #[.pointer (some ⟨g, 0, none⟩), .int .i64 k] w (After (Cut · g b (step o c k) (c - k) (zs.drop k)) g w (.slice (some ⟨b, o, none⟩) k k)) :=
  (bytes_in g zs.length c k _ w h.row hk h.cap).mono fun _ _ ⟨he, hw⟩ => ⟨he, by subst hw; exact gb_set _ _ _ _, by subst hw; exact h.next k hk⟩
theorem Cut.bytes_over (h : Cut w g b o c zs) (k : Int) (hk : k < 0 ∨ (zs.length : Int) < k) :
    Calls Try.prog 24 #[.pointer (some ⟨g, 0, none⟩), .int .i64 k] w (After (Spoilt · g) g w (.slice none 0 0)) :=
  (_root_.Go.Proofs.Ytddmjenhpbbocaa.bytes_over g zs.length c _ k w h.row hk).mono fun _ _ ⟨he, hw⟩ => ⟨he, by subst hw; exact gb_trans (gb_set _ _ _ _) (gb_set _ _ _ _), by subst hw; exact spoilt_row h.row⟩
theorem Cut.rest_ (h : Cut w g b o c zs) :
    Calls Try.prog 17 #[.pointer (some ⟨g, 0, none⟩)] w (After (Cut · g b (step o c zs.length) (c - zs.length) []) g w (.slice (some ⟨b, o, none⟩) zs.length zs.length)) :=
  (rest_at g zs.length c _ w h.row h.cap).mono fun _ _ ⟨he, hw⟩ => ⟨he, by subst hw; exact gb_set _ _ _ _, by subst hw; simpa using h.next zs.length (Nat.le_refl _)⟩
theorem Cut.left_ (h : Cut w g b o c zs) :
    Calls Try.prog 14 #[.pointer (some ⟨g, 0, none⟩)] w fun e w' => e = .returned (.int .i64 zs.length) ∧ w = w' := left_at g _ _ _ _ w h.row
theorem Cut.bad_ (h : Cut w g b o c zs) :
    Calls Try.prog 15 #[.pointer (some ⟨g, 0, none⟩)] w fun e w' => e = .returned (.bool false) ∧ w = w' := bad_at g _ _ w h.row

theorem Spoilt.num_ (h : Spoilt w g) (k : Int) :
    Calls Try.prog 23 #[.pointer (some ⟨g, 0, none⟩), .int .i64 k] w fun e w' => e = .returned (.int .u64 0) ∧ w = w' := num_bad g k w h
theorem Spoilt.drewN (h : Spoilt w g) (q : Nat) : Spoilt (w.drewN q) g := h
theorem Spoilt.bytes_ (h : Spoilt w g) (k : Int) :
    Calls Try.prog 24 #[.pointer (some ⟨g, 0, none⟩), .int .i64 k] w fun e w' => e = .returned (.slice none 0 0) ∧ w = w' := bytes_bad g _ k w h
theorem Spoilt.rest_ (h : Spoilt w g) :
    Calls Try.prog 17 #[.pointer (some ⟨g, 0, none⟩)] w fun e w' => e = .returned (.slice none 0 0) ∧ w = w' := rest_bad g _ _ _ w h
theorem Spoilt.left_ (h : Spoilt w g) :
    Calls Try.prog 14 #[.pointer (some ⟨g, 0, none⟩)] w fun e w' => e = .returned (.int .i64 0) ∧ w = w' := left_at g _ _ _ _ w h
theorem Spoilt.bad_ (h : Spoilt w g) :
    Calls Try.prog 15 #[.pointer (some ⟨g, 0, none⟩)] w fun e w' => e = .returned (.bool true) ∧ w = w' := bad_at g _ _ w h
end

/-- a new cutter: its bytes in the first new block, itself in the second -/
def NewCut (w : World) (zs : List Int) (e : Ending) (w' : World) : Prop :=
  e = .returned (.pointer (some ⟨w.heap.size + 1, 0, none⟩)) ∧ Cut w' (w.heap.size + 1) w.heap.size 0 zs.length zs ∧ Below w.heap.size w w' ∧ w'.heap.size = w.heap.size + 2 ∧ Row w' w.heap.size 5 (bv zs).toArray
theorem rd_row {w : World} {b o : Nat} {t : TypeId} {l : List Value} {zs : List Int} (h : Row w b t l.toArray) (hz : ∀ j, j < zs.length → l[o + j]? = some (.int .u8 (zs.getD j 0))) : Rd w (some ⟨b, o, none⟩) zs := by
  intro j hj
  refine ⟨_, rfl, ?_⟩
  rw [show ((⟨b, o, none⟩ : Addr).add j) = ⟨b, o + j, none⟩ by simp [Addr.add], h.cell]
  simpa using hz j hj
theorem of_new (A : Option Addr) (n c : Nat) (zs : List Int) (w : World) (hl : zs.length = n) (hn : n ≤ 16777216) (hz : Byt zs) (hr : Rd w A zs) :
    Calls Try.prog 11 #[.slice A n c] w (NewCut w zs) :=
  (of_any A n c zs w hl hn hr).mono fun _ _ ⟨he, hw⟩ => by
    subst hw
    subst hl
    have r0 : Row ((w.alloc (.cells (bv zs).toArray 5)).alloc (.cells #[.slice (some ⟨w.heap.size, 0, none⟩) zs.length zs.length, .bool true] 48)) w.heap.size 5 (bv zs).toArray := heap_alloc2_old w _ _
    refine ⟨he, ⟨?_, ?_, Nat.le_refl _, hz, by omega⟩, ?_, by simp, r0⟩
    · exact heap_alloc2_new w _ _
    · exact rd_row r0 (fun j hj => by rw [Nat.zero_add]; exact bv_get zs j hj)
    · exact ((Below.refl _ _).alloc (Nat.le_refl _) _).alloc (by simp) _

end Go.Proofs.Ytddmjenhpbbocaa
