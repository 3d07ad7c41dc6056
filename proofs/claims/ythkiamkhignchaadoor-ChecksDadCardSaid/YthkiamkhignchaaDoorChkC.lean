/-
  Which messages count, in one word; by the code.
  Conditions: the known addresses lie in their table; the message's options are read.
-/
import Derived.Test.YthkiamkhignchaaDoorChkB
namespace Go.Proofs.YthkiamkhignchaaDoor.Ck
set_option maxRecDepth 100000
open Go.RowKit Ops Hd Oz Mg
open Ad (Knw kn kn_len kn_ok Ok mult ll sol sol_ok isMulticast_any isLinkLocal_any solicited_any unspecified_any eql_any neq_any)

/-- what is asked of a kind: the hops, and the rest -/
def asked (k : Pk) (m : Ms) (os : List (Int × List Int)) : Option (Int × Bool) :=
  if m.kind = 130 then some (1, ll k.s && k.alert) else
  if m.kind = 133 then some (255, hides k os) else
  if m.kind = 134 then some (255, ll k.s) else
  if m.kind = 135 then some (255, asks k m os) else
  if m.kind = 136 then some (255, tells k m) else
  if m.kind = 137 then some (255, ll k.s && leads m) else
  if m.kind = 143 then some (1, (ll k.s || nob k.s) && k.alert) else none
/-- whether a message counts -/
def valid (k : Pk) (m : Ms) (os : List (Int × List Int)) : Bool := match asked k m os with
  | none => true
  | some (h, z) => decide (k.hops = h) && (decide (m.code = 0) && z)

section
variable {k : Pk} {m : Ms} {os : List (Int × List Int)}
theorem valid_of {h : Int} {z : Bool} (e : asked k m os = some (h, z)) : valid k m os = (decide (k.hops = h) && (decide (m.code = 0) && z)) := by unfold valid; rw [e]
theorem valid_free (e : asked k m os = none) : valid k m os = true := by unfold valid; rw [e]
theorem asked_130 (h : m.kind = 130) : asked k m os = some (1, ll k.s && k.alert) := by unfold asked; rw [h]; rfl
theorem asked_133 (h : m.kind = 133) : asked k m os = some (255, hides k os) := by unfold asked; rw [h]; rfl
theorem asked_134 (h : m.kind = 134) : asked k m os = some (255, ll k.s) := by unfold asked; rw [h]; rfl
theorem asked_135 (h : m.kind = 135) : asked k m os = some (255, asks k m os) := by unfold asked; rw [h]; rfl
theorem asked_136 (h : m.kind = 136) : asked k m os = some (255, tells k m) := by unfold asked; rw [h]; rfl
theorem asked_137 (h : m.kind = 137) : asked k m os = some (255, ll k.s && leads m) := by unfold asked; rw [h]; rfl
theorem asked_143 (h : m.kind = 143) : asked k m os = some (1, (ll k.s || nob k.s) && k.alert) := by unfold asked; rw [h]; rfl
theorem asked_none (h : ¬ m.kind = 130 ∧ ¬ m.kind = 133 ∧ ¬ m.kind = 134 ∧ ¬ m.kind = 135 ∧ ¬ m.kind = 136 ∧ ¬ m.kind = 137 ∧ ¬ m.kind = 143) : asked k m os = none := by
  obtain ⟨h0, h3, h4, h5, h6, h7, h8⟩ := h
  unfold asked
  rw [if_neg h0, if_neg h3, if_neg h4, if_neg h5, if_neg h6, if_neg h7, if_neg h8]
theorem kinds_of (m : Ms) : m.kind = 130 ∨ m.kind = 133 ∨ m.kind = 134 ∨ m.kind = 135 ∨ m.kind = 136 ∨ m.kind = 137 ∨ m.kind = 143 ∨ (¬ m.kind = 130 ∧ ¬ m.kind = 133 ∧ ¬ m.kind = 134 ∧ ¬ m.kind = 135 ∧ ¬ m.kind = 136 ∧ ¬ m.kind = 137 ∧ ¬ m.kind = 143) := by omega
end

theorem hit_at {x : Int} {v : Value} (i : Nat) (h : seven[i]? = some (x, v)) {y : Int} (e : y = x) : ∃ p ∈ seven, p.1 = y := ⟨_, List.mem_of_getElem? h, e.symm⟩

/-- the code's answer -/
theorem codeValid (k : Pk) (v : Value) (m : Ms) (os : List (Int × List Int)) (w : World) (hk : Knw w) (G : Gd k m) (hO : Op1 w m.opts os) :
    Calls Tryd.prog 11 #[pv k v, mv m] w fun e w' => e = .returned (.bool (valid k m os)) ∧ Below w.heap.size w w' := by
  have KL : ∀ u, Knw u → Calls Tryd.prog 39 #[av k.s] u fun e w' => e = .returned (.bool (ll k.s)) ∧ Below u.heap.size u w' := fun u _ => isLinkLocal_any k.s u G.s
  have KA : ∀ u, Knw u → Calls Tryd.prog 41 #[av k.s] u fun e w' => e = .returned (.bool true) ∧ Below u.heap.size u w' := fun u _ => anybody_any k.s u
  have KN : ∀ u, Knw u → Calls Tryd.prog 47 #[av k.s] u fun e w' => e = .returned (.bool (ll k.s || nob k.s)) ∧ Below u.heap.size u w' := fun u h => localOrNobody_any k.s u h G.s
  rcases kinds_of m with h | h | h | h | h | h | h | h
  · rw [valid_of (asked_130 h)]
    exact valid_some k v m os w hk G hO 1 39 40 _ _ (hit_at 0 rfl h) (by rw [h]; simp [seven]) (fun _ _ => by kernel_rfl) (fun _ _ => by kernel_rfl) KL (fun u hu _ => onAlert_any k v m u hu G)
  · rw [valid_of (asked_133 h), show hides k os = (true && hides k os) from rfl]
    exact valid_some k v m os w hk G hO 255 41 42 _ _ (hit_at 1 rfl h) (by rw [h]; simp [seven]) (fun _ _ => by kernel_rfl) (fun _ _ => by kernel_rfl) KA (fun u hu ho => hidesNothing_any k v m os u hu G ho)
  · rw [valid_of (asked_134 h), show ll k.s = (ll k.s && true) by simp]
    exact valid_some k v m os w hk G hO 255 39 43 _ _ (hit_at 2 rfl h) (by rw [h]; simp [seven]) (fun _ _ => by kernel_rfl) (fun _ _ => by kernel_rfl) KL (fun u hu _ => noMore_any k v m u hu G)
  · rw [valid_of (asked_135 h), show asks k m os = (true && asks k m os) from rfl]
    exact valid_some k v m os w hk G hO 255 41 44 _ _ (hit_at 3 rfl h) (by rw [h]; simp [seven]) (fun _ _ => by kernel_rfl) (fun _ _ => by kernel_rfl) KA (fun u hu ho => asksOne_any k v m os u hu G ho)
  · rw [valid_of (asked_136 h), show tells k m = (true && tells k m) from rfl]
    exact valid_some k v m os w hk G hO 255 41 45 _ _ (hit_at 4 rfl h) (by rw [h]; simp [seven]) (fun _ _ => by kernel_rfl) (fun _ _ => by kernel_rfl) KA (fun u hu _ => tellsOne_any k v m u hu G)
  · rw [valid_of (asked_137 h)]
    exact valid_some k v m os w hk G hO 255 39 46 _ _ (hit_at 5 rfl h) (by rw [h]; simp [seven]) (fun _ _ => by kernel_rfl) (fun _ _ => by kernel_rfl) KL (fun u hu _ => leadsOn_any k v m u hu G)
  · rw [valid_of (asked_143 h)]
    exact valid_some k v m os w hk G hO 1 47 40 _ _ (hit_at 6 rfl h) (by rw [h]; simp [seven]) (fun _ _ => by kernel_rfl) (fun _ _ => by kernel_rfl) KN (fun u hu _ => onAlert_any k v m u hu G)
  · rw [valid_free (asked_none h)]
    exact valid_none k v m os w hk G hO (by simp only [seven, List.mem_cons, List.not_mem_nil, or_false, forall_eq_or_imp, forall_eq]; omega)

end Go.Proofs.YthkiamkhignchaaDoor.Ck
