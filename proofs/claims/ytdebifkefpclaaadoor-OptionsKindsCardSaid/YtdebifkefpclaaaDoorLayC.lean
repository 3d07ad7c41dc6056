/-
  A cutter of octets among blocks that are known whole: what each call answers, and which blocks are known behind it.
  Conditions: the cutter, and the bytes that it cuts, lie in two of these blocks.
-/
import Derived.Test.YtdebifkefpclaaaDoorArr
import Derived.Test.YtdebifkefpclaaaDoorOctFn
namespace Go.Proofs.YtdebifkefpclaaaDoor
set_option maxRecDepth 100000
open Go.RowKit

/-- a sound cutter's cells: r bytes are left, which begin at place o of block b -/
abbrev ct (b o r : Nat) : List Value := [.slice (some ⟨b, o, none⟩) r r, .bool true]
/-- a spoilt one's -/
abbrev ctBad : List Value := [.slice none 0 0, .bool false]

theorem part_drop {zs : List Int} {o r : Nat} : Part (bv zs) o (bv ((zs.drop o).take r)) := fun j v hv => by
  have hj : j < r := by
    have := (List.getElem?_eq_some_iff.1 hv).1
    rw [bv_length] at this
    simp at this
    omega
  rw [← hv]
  simp [bv, hj]
theorem rd_drop {w : World} {b o r : Nat} {t : TypeId} {zs : List Int} (h : Row w b t (bv zs).toArray) : Rd w (some ⟨b, o, none⟩) ((zs.drop o).take r) :=
  rd_row h (fun j hj => part_drop j _ (bv_get _ j hj))
theorem len_drop {zs : List Int} {o r : Nat} (h : o + r ≤ zs.length) : ((zs.drop o).take r).length = r := by simp; omega

theorem cutA_ct (b o r k : Nat) : cutA (some ⟨b, o, none⟩) r k = some ⟨b, if r = k then o else o + k, none⟩ := by
  unfold cutA
  by_cases e : r = k
  · rw [if_pos e, if_pos e]
  · rw [if_neg e, if_neg e]
    simp [Addr.add]

section
variable {w0 w : World} {L : List Blk} {i g b o r : Nat} {t : TypeId} {zs : List Int}

theorem Lay.cut (h : Lay w0 w L) (A : Option Addr) (n c : Nat) (hl : zs.length = n) (hn : n ≤ 16777216) (hr : Rd w A zs) :
    Calls Tryd.prog 63 #[.slice A n c] w fun e w' => ∃ b, w.heap.size ≤ b ∧ e = .returned (.pointer (some ⟨b + 1, 0, none⟩)) ∧ Lay w0 w' ((b + 1, 130, ct b 0 n) :: (b, 5, bv zs) :: L) ∧ w'.heap.size = b + 2 :=
  (of_any A n c zs w hl hn hr).mono fun _ _ ⟨he, hw⟩ => by
    subst hw
    refine ⟨w.heap.size, Nat.le_refl _, he, ?_, by simp⟩
    exact (h.new (bv zs) 5 rfl).new (ct w.heap.size 0 n) 130 (by simp)
theorem Lay.bytes (h : Lay w0 w L) (hi : L[i]? = some (g, 130, ct b o r)) (k : Nat) (hk : k ≤ r) (o' : Nat) (ho : (if r = k then o else o + k) = o') :
    Calls Tryd.prog 66 #[.pointer (some ⟨g, 0, none⟩), .int .i64 k] w fun e w' => e = .returned (.slice (some ⟨b, o, none⟩) k k) ∧ Lay w0 w' (L.set i (g, 130, ct b o' (r - k))) ∧ w'.heap.size = w.heap.size :=
  (bytes_in g r r k _ w (h.at (List.mem_of_getElem? hi)) hk (Nat.le_refl _)).mono fun _ _ ⟨he, hw⟩ => by
    subst hw
    refine ⟨he, ?_, by simp [World.setCell]⟩
    rw [cutA_ct, ho]
    exact h.cell i hi 0 _
theorem Lay.bytesOver (h : Lay w0 w L) (hi : L[i]? = some (g, 130, ct b o r)) (k : Int) (hk : k < 0 ∨ (r : Int) < k) :
    Calls Tryd.prog 66 #[.pointer (some ⟨g, 0, none⟩), .int .i64 k] w fun e w' => e = .returned (.slice none 0 0) ∧ Lay w0 w' (L.set i (g, 130, ctBad)) ∧ w'.heap.size = w.heap.size :=
  (bytes_over g r r _ k w (h.at (List.mem_of_getElem? hi)) hk).mono fun _ _ ⟨he, hw⟩ => by
    subst hw
    refine ⟨he, ?_, by simp [World.setCell]⟩
    have h1 := h.cell i hi 0 (.slice none 0 0)
    have h2 := h1.cell i (cs := [.slice none 0 0, .bool true]) (List.getElem?_set_self (List.getElem?_eq_some_iff.1 hi).1) 1 (.bool false)
    rw [List.set_set] at h2
    exact h2
theorem Lay.rest (h : Lay w0 w L) (hi : L[i]? = some (g, 130, ct b o r)) :
    Calls Tryd.prog 103 #[.pointer (some ⟨g, 0, none⟩)] w fun e w' => e = .returned (.slice (some ⟨b, o, none⟩) r r) ∧ Lay w0 w' (L.set i (g, 130, ct b o 0)) ∧ w'.heap.size = w.heap.size :=
  (rest_at g r r _ w (h.at (List.mem_of_getElem? hi)) (Nat.le_refl _)).mono fun _ _ ⟨he, hw⟩ => by
    subst hw
    refine ⟨he, ?_, by simp [World.setCell]⟩
    have e : cutA (some ⟨b, o, none⟩) r r = some ⟨b, o, none⟩ := by simp [cutA]
    rw [e, Nat.sub_self]
    exact h.cell i hi 0 _
theorem Lay.num (h : Lay w0 w L) (hi : L[i]? = some (g, 130, ct b o r)) (hb : (b, t, bv zs) ∈ L) (hne : b ≠ g) (hz : Byt zs) (hr : o + r ≤ zs.length) (k : Nat) (h1 : 1 ≤ k) (h8 : k ≤ 8) (hk : k ≤ r) (o' : Nat) (ho : (if r = k then o else o + k) = o') :
    Calls Tryd.prog 65 #[.pointer (some ⟨g, 0, none⟩), .int .i64 k] w fun e w' => e = .returned (.int .u64 (num ((zs.drop o).take k))) ∧ Lay w0 w' (L.set i (g, 130, ct b o' (r - k))) ∧ w'.heap.size = w.heap.size :=
  (num_in g r r k _ _ w (h.at (List.mem_of_getElem? hi)) hk (Nat.le_refl _) h1 h8 (len_drop hr) ((hz.drop o).take r) (rd_drop (h.at hb)) (fun a ha => by injection ha with ha; subst ha; exact hne)).mono fun _ _ ⟨he, hw⟩ => by
    subst hw
    refine ⟨by rw [he, List.take_take, Nat.min_eq_left hk], ?_, by simp [World.setCell]⟩
    rw [cutA_ct, ho]
    exact h.cell i hi 0 _
theorem Lay.numOver (h : Lay w0 w L) (hi : L[i]? = some (g, 130, ct b o r)) (k : Int) (hk : k < 1 ∨ 8 < k ∨ (r : Int) < k) :
    Calls Tryd.prog 65 #[.pointer (some ⟨g, 0, none⟩), .int .i64 k] w fun e w' => e = .returned (.int .u64 0) ∧ Lay w0 w' (L.set i (g, 130, ctBad)) ∧ w'.heap.size = w.heap.size :=
  (num_over g r r _ k w (h.at (List.mem_of_getElem? hi)) hk).mono fun _ _ ⟨he, hw⟩ => by
    subst hw
    refine ⟨he, ?_, by simp [World.setCell]⟩
    have h1 := h.cell i hi 0 (.slice none 0 0)
    have h2 := h1.cell i (cs := [.slice none 0 0, .bool true]) (List.getElem?_set_self (List.getElem?_eq_some_iff.1 hi).1) 1 (.bool false)
    rw [List.set_set] at h2
    exact h2
theorem Lay.left (h : Lay w0 w L) (hm : (g, 130, ct b o r) ∈ L) :
    Calls Tryd.prog 64 #[.pointer (some ⟨g, 0, none⟩)] w fun e w' => e = .returned (.int .i64 r) ∧ w = w' := left_at g _ _ _ _ w (h.at hm)
theorem Lay.bad (h : Lay w0 w L) (hm : (g, 130, ct b o r) ∈ L) :
    Calls Tryd.prog 67 #[.pointer (some ⟨g, 0, none⟩)] w fun e w' => e = .returned (.bool false) ∧ w = w' := bad_at g _ _ w (h.at hm)
end

end Go.Proofs.YtdebifkefpclaaaDoor
