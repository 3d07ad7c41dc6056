/-
  Options that are put and got, in plain words: each is filled up with noughts.
  Conditions: none.
-/
import Derived.Test.YtdebifkefpclaaaDoorOpoU
namespace Go.Proofs.YtdebifkefpclaaaDoor.Oz
set_option maxRecDepth 100000
open Go.RowKit Ops

/-- an option, filled up -/
def fill (o : Int × List Int) : Int × List Int := (o.1, o.2.take (kept8 o.2.length) ++ List.replicate (8 * e8 o.2.length - 2 - kept8 o.2.length) 0)
theorem kept_min (n : Nat) : kept8 n = min n 2038 := by unfold kept8 e8; omega
theorem fill_len (o : Int × List Int) : (fill o).2.length = 8 * e8 o.2.length - 2 := by
  have h := kept8_le o.2.length
  simp [fill]
  omega
theorem ob_fill (o : Int × List Int) : ob o = [o.1, (e8 o.2.length : Int)] ++ (fill o).2 := by simp [ob, fill]
theorem plain_spans : ∀ (os : List (Int × List Int)) (pre : List Int), plain (pre ++ putO os) (spans os pre.length) = os.map fill
  | [], pre => rfl
  | o :: os, pre => by
    have hl := ob_len o
    have ih := plain_spans os (pre ++ ob o)
    rw [List.append_assoc, List.length_append, hl] at ih
    rw [putO_cons]
    unfold spans
    unfold plain at ih ⊢
    rw [List.map_cons, List.map_cons, ih]
    congr 1
    have e : ((pre ++ (ob o ++ putO os)).drop (pre.length + 2)).take (8 * e8 o.2.length - 2) = (fill o).2 := by
      rw [← List.drop_drop, List.drop_left' rfl, ob_fill, List.append_assoc]
      rw [show [o.1, (e8 o.2.length : Int)] ++ ((fill o).2 ++ putO os) = o.1 :: (e8 o.2.length : Int) :: ((fill o).2 ++ putO os) from rfl]
      simp only [List.drop_succ_cons, List.drop_zero]
      exact List.take_left' (fill_len o)
    rw [e]
    rfl
theorem spans_lie (os : List (Int × List Int)) (h : os.length ≤ 64) (hb : Byt (putO os)) : Lie (putO os) (putO os).length (spans os 0) := by
  have hg := goes_put os [] [] (by simpa using h)
  simp only [List.nil_append, List.length_nil] at hg
  exact goes_lie hb _ 0 [] _ (Nat.le_refl _) (lie_nil _) hg
theorem putO_byt {os : List (Int × List Int)} (hk : ∀ o ∈ os, 0 ≤ o.1 ∧ o.1 ≤ 255) (hz : ∀ o ∈ os, Byt o.2) : Byt (putO os) := fun z hm => by
  unfold putO at hm
  obtain ⟨o, ho, hm⟩ := List.mem_flatMap.1 hm
  have h8 := e8_pos o.2.length
  have h1 := hk o ho
  unfold ob at hm
  simp only [List.mem_append, List.mem_cons, List.not_mem_nil, or_false, List.mem_replicate] at hm
  rcases hm with (hm | hm) | hm
  · omega
  · exact hz o ho z (List.mem_of_mem_take hm)
  · omega
theorem lastN_take {os : List (Int × List Int)} {i : Nat} {o : Int × List Int} (h : os[i]? = some o) : lastN (os.take (i + 1)) = 8 * e8 o.2.length := by
  have : os.take (i + 1) = os.take i ++ [o] := by
    rw [List.take_add_one, h]
    rfl
  unfold lastN
  rw [this]
  simp

end Go.Proofs.YtdebifkefpclaaaDoor.Oz
