/-
  What the heap's up and down do to a queue of timers.
  Conditions: at most 256 timers.
-/
import Derived.Test.YtkjgmimfnmilfaaTmrU
namespace Go.Proofs.Ytkjgmimfnmilfaa.Tm5
open Go.RowKit Go.Proofs.Ytkjgmimfnmilfaa.Ops

theorem m_less (v : Value) (w : World) : (method 203 38 v "Less").run Try.prog w = .ok (52, v) w := by kernel_rfl
theorem m_swap (v : Value) (w : World) : (method 203 38 v "Swap").run Try.prog w = .ok (55, v) w := by kernel_rfl
theorem m_len (v : Value) (w : World) : (method 203 38 v "Len").run Try.prog w = .ok (29, v) w := by kernel_rfl
theorem m_push (v : Value) (w : World) : (method 203 38 v "Push").run Try.prog w = .ok (54, v) w := by kernel_rfl
theorem m_pop (v : Value) (w : World) : (method 203 38 v "Pop").run Try.prog w = .ok (53, v) w := by kernel_rfl

/-- a queue whose map is in step with its list -/
def Qs (w : World) (q b : Nat) (A : Option Addr) (n c : Nat) (l : List Tm) : Prop := ∃ f, Qu w q b A n c l f ∧ Pl l f
theorem Qs.keep {w w' : World} {q b : Nat} {A : Option Addr} {n c : Nat} {l : List Tm} (h : Qs w q b A n c l) (k : Below w.heap.size w w') : Qs w' q b A n c l := by
  obtain ⟨f, h1, h2⟩ := h
  exact ⟨f, h1.keep k, h2⟩
/-- the same timers, those from n on where they were -/
def Sm (l l' : List Tm) (n : Nat) : Prop := l'.length = l.length ∧ (∀ x, x ∈ l' ↔ x ∈ l) ∧ ∀ k, n ≤ k → ix l' k = ix l k
theorem Sm.refl (l : List Tm) (n : Nat) : Sm l l n := ⟨rfl, fun _ => Iff.rfl, fun _ _ => rfl⟩
theorem Sm.sw {l l' : List Tm} {n i j : Nat} (h : Sm l l' n) (hi : i < n) (hj : j < n) (hn : n ≤ l'.length) : Sm l (sw l' i j) n := by
  refine ⟨by rw [sw_length]; exact h.1, fun x => by rw [sw_mem (by omega) (by omega)]; exact h.2.1 x, fun k hk => ?_⟩
  rw [ix_sw (by omega) (by omega), if_neg (by omega), if_neg (by omega)]
  exact h.2.2 k hk

theorem less_eq {w : World} {q b : Nat} {A : Option Addr} {n c : Nat} {l : List Tm} (h : Qs w q b A n c l) (i j : Nat) (hi : i < n) (hj : j < n) {z : Bool} (hz : lt (ix l i) (ix l j) = z) :
    Calls Try.prog 52 #[.pointer (some ⟨q, 0, none⟩), .int .i64 i, .int .i64 j] w fun e w' => e = .returned (.bool z) ∧ Below w.heap.size w w' := by
  obtain ⟨f, h, _⟩ := h
  subst hz
  exact less_any h i j hi hj
theorem swap_eq {w : World} {q b : Nat} {A : Option Addr} {n c : Nat} {l : List Tm} (h : Qs w q b A n c l) (i j : Nat) (hi : i < n) (hj : j < n) (hij : i ≠ j) :
    Calls Try.prog 55 #[.pointer (some ⟨q, 0, none⟩), .int .i64 i, .int .i64 j] w
      fun e w' => e = .returned (.tuple #[]) ∧ Qs w' q b A n c (sw l i j) ∧ Kept (Foot q b A) w w' := by
  obtain ⟨f, h, hp⟩ := h
  have hl := h.len
  refine (swap_any h i j hi hj hij).mono ?_
  rintro e w' ⟨rfl, h1, h2⟩
  exact ⟨rfl, ⟨_, h1, pl_swap hp (by omega) (by omega)⟩, h2⟩

def Done (w w' : World) (q b : Nat) (A : Option Addr) (N c : Nat) (l : List Tm) (n : Nat) : Prop := ∃ l', Qs w' q b A N c l' ∧ HP l' n ∧ Sm l l' n ∧ Kept (Foot q b A) w w'
def Rup (w wr : World) (q b : Nat) (A : Option Addr) (N c : Nat) (l : List Tm) (n j : Nat) : Prop := ∃ l', Qs wr q b A N c l' ∧ Up l' n j ∧ Sm l l' n ∧ Kept (Foot q b A) w wr

set_option maxHeartbeats 1000000 in
theorem up_any {w : World} {q b : Nat} {A : Option Addr} {N c : Nat} {l : List Tm} (h : Qs w q b A N c l) (n j : Nat) (hj : j < n) (hn : n ≤ N) (hN : N ≤ 256) (hu : Up l n j) (hl : l.length = N) :
    Calls Try.prog 34 #[.iface 38 (.pointer (some ⟨q, 0, none⟩)), .int .i64 j] w fun e w' => e = .returned (.tuple #[]) ∧ Done w w' q b A N c l n := by
  have H0 : Hid (Rup w w q b A N c l n j) := ⟨l, h, hu, Sm.refl l n, Kept.refl _ _⟩
  have HL := veil hl
  clear h hu hl
  go_enter Try.func34, Try.ntmps34
  go_wp2_with fail
  go_loopw [1] (fun u wr => ∃ j : Nat, j < n ∧ u = .int .i64 j ∧ Hid (Rup w wr q b A N c l n j)) (fun u _ => (intOf u).toNat)
  case atStart => exact ⟨j, hj, rfl, H0⟩
  case round =>
    clear H0 hj j
    obtain ⟨j, hj, rfl, hR⟩ := hrel
    obtain ⟨l', hq, hu, hs, hk⟩ := hR.out
    have HQ := veil hq
    have HU := veil hu
    have HS := veil hs
    have HK := veil hk
    clear hR hq hu hs hk
    have hm := m_less
    by_cases h0 : 0 < j
    · have h1 : (1 : Int) ≤ (j : Int) := by omega
      obtain ⟨p, hp⟩ : ∃ p, (j - 1) / 2 = p := ⟨_, rfl⟩
      have hpj : p < j := by omega
      have hq : ((j : Int) - 1) / 2 = (p : Int) := by omega
      have ht : ((p : Int) == (j : Int)) = false := by simp; omega
      have ht' : (p == j) = false := by simp; omega
      have hll := veil (show n ≤ l'.length by rw [HS.out.1, HL.out]; exact hn)
      have HP := veil hp
      clear hp
      cases hz : lt (ix l' j) (ix l' p) with
      | false =>
        have HZ := veil hz
        clear hz
        go_wp2_with fail
        clear hm
        refine (less_eq HQ.out j p (by omega) (by omega) HZ.out).mono ?_
        rintro e w1 ⟨rfl, hb⟩
        have HB := veil hb
        clear hb
        go_wp2_with fail
        go_end0
        exact ⟨rfl, l', HQ.out.keep HB.out, up_done HU.out (.inr (by rw [HP.out]; exact HZ.out)), HS.out, HK.out.trans' (kept_below HB.out)⟩
      | true =>
        have HZ := veil hz
        clear hz
        go_wp2_with fail
        clear hm
        refine (less_eq HQ.out j p (by omega) (by omega) HZ.out).mono ?_
        rintro e w1 ⟨rfl, hb⟩
        have HB := veil hb
        clear hb
        have hm := m_swap
        go_wp2_with fail
        clear hm
        refine (swap_eq (HQ.out.keep HB.out) p j (by omega) (by omega) (by omega)).mono ?_
        rintro e w2 ⟨rfl, hq2, hk2⟩
        have HR : Hid (Rup w w2 q b A N c l n p) := by
          refine ⟨_, hq2, ?_, HS.out.sw (by omega) (by omega) hll.out, (HK.out.trans' (kept_below HB.out)).trans' hk2⟩
          have := up_step HU.out h0 hj hll.out (by rw [HP.out]; exact HZ.out)
          rw [HP.out] at this
          exact this
        clear hq2 hk2
        go_wp2_with fail
        go_roundw
        case rel => exact ⟨p, by omega, rfl, HR⟩
        case measure => simp [intOf]; omega
    · have h1 : (j : Int) ≤ 0 := by omega
      have hq : ((j : Int) - 1).tdiv 2 = (j : Int) := by
        have : j = 0 := by omega
        subst this
        rfl
      go_wp2_with fail
      go_end0
      exact ⟨rfl, l', HQ.out, up_done HU.out (.inl (by omega)), HS.out, HK.out⟩

end Go.Proofs.Ytkjgmimfnmilfaa.Tm5
