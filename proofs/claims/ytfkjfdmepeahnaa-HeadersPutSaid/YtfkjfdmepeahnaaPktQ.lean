/-
  The bytes of a packet, by the document's answer: whatever packet it is, or that it is too long.
  Conditions: addresses of sixteen bytes; numbers that their kinds hold; a body that reads as bytes, 16000000 at most.
-/
import Derived.Test.YtfkjfdmepeahnaaPktP
namespace Go.Proofs.Ytfkjfdmepeahnaa.Hd
set_option maxRecDepth 100000
open Go.RowKit

/-- a packet that may be put is put -/
theorem refPut_ok (k : Pk) (A : Option Addr) (n c : Nat) (zs : List Int) (w : World) (M : Ends k) (V : Holds k) (hs : Slc w (.slice A n c) zs) (hok : OkP k n) :
    Calls Try.prog 12 #[pv k (.slice A n c)] w fun e w' => ∃ v, e = .returned (.tuple #[v, .int .i64 0]) ∧ Gives w (pb k zs) (.returned v) w' := by
  obtain ⟨s, d, hops, alert, ⟨is_, id, off, more⟩, next⟩ := k
  obtain ⟨h1, h2⟩ := hok
  simp only [sizeP] at h1
  have bo := V.off
  have bi := V.id
  cases alert <;> cases is_
  · exact refPut_nnn s d hops next id off A n c zs w M.s M.d more hs (by simpa using h1)
  · have h3 := h2 rfl
    cases more with
    | true => exact refPut_nim s d hops next id off A n c zs w M.s M.d bi ⟨bo.1, h3⟩ true rfl hs (by simp at h1; omega)
    | false => exact refPut_nin s d hops next id off A n c zs w M.s M.d bi ⟨bo.1, h3⟩ false rfl hs (by simp at h1; omega)
  · exact refPut_ann s d hops next id off A n c zs w M.s M.d more hs (by simp at h1; omega)
  · have h3 := h2 rfl
    cases more with
    | true => exact refPut_aim s d hops next id off A n c zs w M.s M.d bi ⟨bo.1, h3⟩ true rfl hs (by simp at h1; omega)
    | false => exact refPut_ain s d hops next id off A n c zs w M.s M.d bi ⟨bo.1, h3⟩ false rfl hs (by simp at h1; omega)

set_option maxRecDepth 100000 in
set_option maxHeartbeats 4000000 in
theorem refPut_long (k : Pk) (A : Option Addr) (n c : Nat) (w : World) (M : Ends k) (hn : n ≤ 16000000) (hok : ¬ OkP k n) :
    Calls Try.prog 12 #[pv k (.slice A n c)] w fun e w' => e = .returned (.tuple #[.slice none 0 0, .int .i64 3]) ∧ Below w.heap.size w w' := by
  have Y := (Lay.begin w).new (pc k (.slice A n c)) 30 (g := w.heap.size) rfl
  have y1 := Y.look mem0 (pc_next M)
  have y2 := Y.look mem0 (pc_body M)
  have y3 := Y.look mem0 (pc_alert M)
  have y4 := Y.range mem0 (pc_frag M) 0 _ rfl
  have y5 := Y.range mem0 (pc_frag M) 2 _ rfl
  have Q := veil Y.below
  unfold OkP sizeP at hok
  obtain ⟨ii, hii⟩ : ∃ ii, k.frag.is = ii := ⟨_, rfl⟩
  obtain ⟨aa, haa⟩ : ∃ aa, k.alert = aa := ⟨_, rfl⟩
  obtain ⟨oo, hoo⟩ : ∃ oo, k.frag.off = oo := ⟨_, rfl⟩
  simp only [hii, haa, hoo] at hok y3 y4 y5
  clear Y hii haa hoo M
  have hsmall : (n : Int) ≤ 16000000 := by omega
  cases ii <;> cases aa <;> simp only [if_true, if_false, Bool.false_eq_true, Int.add_zero, false_implies, and_true, forall_const] at hok
  · have d1 : decide ((65535 : Int) < (n : Int)) = true := by simp; omega
    go_enter Try.func12, Try.ntmps12
    go_wp2_with fail
    refine bodyPost_ret (results_tmp2 rfl _ _ _) rfl ?_
    exact ⟨rfl, Q.out⟩
  · obtain ⟨z, hz⟩ : ∃ z, (n : Int) + 8 = z := ⟨_, rfl⟩
    have d1 : decide ((65535 : Int) < z) = true := by simp; omega
    have b1 : 0 ≤ z ∧ z ≤ 16000008 := by omega
    go_enter Try.func12, Try.ntmps12
    go_wp2_with fail
    refine bodyPost_ret (results_tmp2 rfl _ _ _) rfl ?_
    exact ⟨rfl, Q.out⟩
  · obtain ⟨z, hz⟩ : ∃ z, (n : Int) + 8 = z := ⟨_, rfl⟩
    have b1 : 0 ≤ z ∧ z ≤ 16000008 := by omega
    rcases (by omega : 65535 < z ∨ (z ≤ 65535 ∧ 8191 < oo)) with h | ⟨h, h2⟩
    · have d1 : decide ((65535 : Int) < z) = true := by simp; omega
      go_enter Try.func12, Try.ntmps12
      go_wp2_with fail
      refine bodyPost_ret (results_tmp2 rfl _ _ _) rfl ?_
      exact ⟨rfl, Q.out⟩
    · have d1 : decide ((65535 : Int) < z) = false := by simp; omega
      have d2 : decide ((8191 : Int) < oo) = true := by simp; omega
      go_enter Try.func12, Try.ntmps12
      go_wp2_with fail
      refine bodyPost_ret (results_tmp2 rfl _ _ _) rfl ?_
      exact ⟨rfl, Q.out⟩
  · obtain ⟨z1, hz1⟩ : ∃ z, (n : Int) + 8 = z := ⟨_, rfl⟩
    obtain ⟨z, hz⟩ : ∃ z, z1 + 8 = z := ⟨_, rfl⟩
    have b1 : 0 ≤ z ∧ z ≤ 16000016 := by omega
    rcases (by omega : 65535 < z ∨ (z ≤ 65535 ∧ 8191 < oo)) with h | ⟨h, h2⟩
    · have d1 : decide ((65535 : Int) < z) = true := by simp; omega
      go_enter Try.func12, Try.ntmps12
      go_wp2_with fail
      refine bodyPost_ret (results_tmp2 rfl _ _ _) rfl ?_
      exact ⟨rfl, Q.out⟩
    · have d1 : decide ((65535 : Int) < z) = false := by simp; omega
      have d2 : decide ((8191 : Int) < oo) = true := by simp; omega
      go_enter Try.func12, Try.ntmps12
      go_wp2_with fail
      refine bodyPost_ret (results_tmp2 rfl _ _ _) rfl ?_
      exact ⟨rfl, Q.out⟩

end Go.Proofs.Ytfkjfdmepeahnaa.Hd
