/-
  A cutter in whatever state among blocks that are known whole: what each call answers, and the state behind it.
  Conditions: the cutter, and the bytes that it cuts, lie in two of these blocks.
-/
import Derived.Test.YtdebifkefpclaaaDoorOpoR
import Derived.Test.YtdebifkefpclaaaDoorOpoD
namespace Go.Proofs.YtdebifkefpclaaaDoor.Oz
set_option maxRecDepth 100000
open Go.RowKit Ops

/-- a cutter's state: where its bytes begin, and how many are left; none: it is spoilt -/
abbrev St := Option (Nat × Nat)
def cS (b : Nat) : St → List Value
  | some (o, r) => ct b o r
  | none => ctBad
def nextS : St → Nat → St
  | some (o, r), k => if k ≤ r then some (if r = k then o else o + k, r - k) else none
  | none, _ => none
/-- the bytes that are cut -/
def cutV (zs : List Int) : St → Nat → List Int
  | some (o, r), k => if k ≤ r then (zs.drop o).take k else []
  | none, _ => []
def okS (zs : List Int) : St → Prop
  | some (o, r) => o + r ≤ zs.length
  | none => True
def leftS : St → Nat
  | some (_, r) => r
  | none => 0
theorem okS_next {zs : List Int} {s : St} (h : okS zs s) (k : Nat) : okS zs (nextS s k) := by
  match s, h with
  | none, _ => exact trivial
  | some (o, r), h =>
    simp only [okS] at h
    by_cases hk : k ≤ r
    · simp only [nextS, hk, if_true, okS]
      split <;> omega
    · simp only [nextS, hk, if_false]
      exact trivial
theorem cutV_len {zs : List Int} {s : St} (h : okS zs s) (k : Nat) : (cutV zs s k).length = k ∨ (cutV zs s k = [] ∧ nextS s k = none) := by
  match s, h with
  | none, _ => exact .inr ⟨rfl, rfl⟩
  | some (o, r), h =>
    simp only [okS] at h
    by_cases hk : k ≤ r
    · left
      simp [cutV, hk]
      omega
    · exact .inr ⟨by simp [cutV, hk], by simp [nextS, hk]⟩
theorem byt_cutV {zs : List Int} (hz : Byt zs) (s : St) (k : Nat) : Byt (cutV zs s k) := by
  match s with
  | none => exact fun z hz => by simp [cutV] at hz
  | some (o, r) =>
    intro z h
    by_cases hk : k ≤ r
    · simp only [cutV, hk, if_true] at h
      exact hz z (List.mem_of_mem_drop (List.mem_of_mem_take h))
    · simp [cutV, hk] at h
theorem set_at_same {α : Type} {L : List α} {i : Nat} {x : α} (h : L[i]? = some x) : L.set i x = L := by
  apply List.ext_getElem?
  intro j
  by_cases e : i = j
  · subst e
    rw [List.getElem?_set_self (List.getElem?_eq_some_iff.1 h).1, h]
  · rw [List.getElem?_set_ne e]

section
variable {w0 w : World} {L : List Blk} {i g b : Nat} {t : TypeId} {zs : List Int} {s : St}
theorem Lay.numS (h : Lay w0 w L) (hi : L[i]? = some (g, 130, cS b s)) (hb : (b, t, bv zs) ∈ L) (hne : b ≠ g) (hz : Byt zs) (hr : okS zs s) (k : Nat) (h1 : 1 ≤ k) (h8 : k ≤ 8) :
    Calls Tryd.prog 65 #[.pointer (some ⟨g, 0, none⟩), .int .i64 k] w fun e w' => e = .returned (.int .u64 (num (cutV zs s k))) ∧ Lay w0 w' (L.set i (g, 130, cS b (nextS s k))) ∧ w'.heap.size = w.heap.size := by
  match s, hi, hr with
  | none, hi, _ =>
    refine (num_bad g k w (h.at (List.mem_of_getElem? hi))).mono fun e w' ⟨he, hw⟩ => ?_
    subst hw
    refine ⟨he, ?_, rfl⟩
    have e : L.set i (g, 130, cS b (nextS none k)) = L := set_at_same hi
    rw [e]
    exact h
  | some (o, r), hi, hr =>
    simp only [okS] at hr
    by_cases hk : k ≤ r
    · have := Lay.num h hi hb hne hz hr k h1 h8 hk (if r = k then o else o + k) rfl
      simpa [nextS, cutV, hk, cS] using this
    · have := Lay.numOver h hi (k : Int) (by omega)
      simpa [nextS, cutV, hk, cS, num] using this
theorem Lay.bytesS (h : Lay w0 w L) (hi : L[i]? = some (g, 130, cS b s)) (hb : (b, t, bv zs) ∈ L) (hr : okS zs s) (k : Nat) :
    Calls Tryd.prog 66 #[.pointer (some ⟨g, 0, none⟩), .int .i64 k] w fun e w' => ∃ A m, e = .returned (.slice A m m) ∧ (cutV zs s k).length = m ∧ Slc w' (.slice A m m) (cutV zs s k) ∧ Lay w0 w' (L.set i (g, 130, cS b (nextS s k))) ∧ w'.heap.size = w.heap.size := by
  match s, hi, hr with
  | none, hi, _ =>
    refine (bytes_bad g _ k w (h.at (List.mem_of_getElem? hi))).mono fun e w' ⟨he, hw⟩ => ?_
    subst hw
    refine ⟨none, 0, he, rfl, .inl ⟨rfl, rfl⟩, ?_, rfl⟩
    have e : L.set i (g, 130, cS b (nextS none k)) = L := set_at_same hi
    rw [e]
    exact h
  | some (o, r), hi, hr =>
    simp only [okS] at hr
    by_cases hk : k ≤ r
    · refine (Lay.bytes h hi k hk (if r = k then o else o + k) rfl).mono fun e w' ⟨he, hl, hs⟩ => ?_
      have hlen : (cutV zs (some (o, r)) k).length = k := by simp [cutV, hk]; omega
      refine ⟨some ⟨b, o, none⟩, k, he, hlen, ?_, by simpa [nextS, hk, cS] using hl, hs⟩
      have hb' : (b, t, bv zs) ∈ L.set i (g, 130, ct b (if r = k then o else o + k) (r - k)) := by
        obtain ⟨j, hj⟩ := List.getElem?_of_mem hb
        refine List.mem_of_getElem? (i := j) ?_
        rw [List.getElem?_set_ne (fun e => ?_)]
        · exact hj
        · subst e
          rw [hi] at hj
          injection hj with hj
          have h2 := congrArg (fun x : Blk => x.2.1) hj
          have h3 := congrArg (fun x : Blk => x.2.2) hj
          simp only [cS] at h3
          cases zs <;> simp [bv] at h3
      simp only [cutV, hk, if_true]
      exact slc_part (hl.at hb') part_drop (by simp; omega) (Nat.le_refl _)
    · refine (Lay.bytesOver h hi (k : Int) (by omega)).mono fun e w' ⟨he, hl, hs⟩ => ?_
      exact ⟨none, 0, he, by simp [cutV, hk], by simp only [cutV, hk, if_false]; exact .inl ⟨rfl, rfl⟩, by simpa [nextS, hk, cS] using hl, hs⟩
theorem Lay.leftS (h : Lay w0 w L) (hm : (g, 130, cS b s) ∈ L) :
    Calls Tryd.prog 64 #[.pointer (some ⟨g, 0, none⟩)] w fun e w' => e = .returned (.int .i64 (Oz.leftS s)) ∧ w = w' := by
  match s, hm with
  | none, hm => exact left_at g _ _ _ _ w (h.at hm)
  | some (o, r), hm => exact left_at g _ _ _ _ w (h.at hm)
theorem Lay.badS (h : Lay w0 w L) (hm : (g, 130, cS b s) ∈ L) :
    Calls Tryd.prog 67 #[.pointer (some ⟨g, 0, none⟩)] w fun e w' => e = .returned (.bool s.isNone) ∧ w = w' := by
  match s, hm with
  | none, hm => exact bad_at g _ _ w (h.at hm)
  | some (o, r), hm => exact bad_at g _ _ w (h.at hm)
end

end Go.Proofs.YtdebifkefpclaaaDoor.Oz
