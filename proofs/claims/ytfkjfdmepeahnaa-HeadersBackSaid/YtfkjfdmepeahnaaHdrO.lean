/-
  A header's bytes, and its options, by the document's answer.
  Conditions: none.
-/
import Derived.Test.YtfkjfdmepeahnaaHdrM
namespace Go.Proofs.Ytfkjfdmepeahnaa.Hd
set_option maxRecDepth 100000
open Go.RowKit

theorem header_no (A : Option Addr) (n c least : Nat) (zs : List Int) (w : World) (hl : zs.length = n) (hz : Byt zs) (hr : Rd w A zs) (h : hdr zs least = 0) :
    Calls Try.prog 47 #[.slice A n c, .int .i64 least] w fun e w' => e = .returned nilV ∧ w = w' := by
  unfold hdr at h
  have hb := hz.at_ 1
  rcases (by omega : n < least ∨ (least ≤ n ∧ n < 2) ∨ (least ≤ n ∧ 2 ≤ n)) with h1 | ⟨h1, h2⟩ | ⟨h1, h2⟩
  · have i1 : (n : Int) < (least : Int) := by omega
    clear h hr hz hb
    go_enter Try.func47, Try.ntmps47
    go_wp2_with fail
    go_ret
    exact ⟨rfl, rfl⟩
  · have i1 : ¬ (n : Int) < (least : Int) := by omega
    have i2 : (n : Int) < 2 := by omega
    clear h hr hz hb
    go_enter Try.func47, Try.ntmps47
    go_wp2_with fail
    go_ret
    exact ⟨rfl, rfl⟩
  · have h3 : n < 8 * ((zs.getD 1 0).toNat + 1) := by
      rcases (by omega : n < 8 * ((zs.getD 1 0).toNat + 1) ∨ ¬ n < 8 * ((zs.getD 1 0).toNat + 1)) with h3 | h3
      · exact h3
      · rw [if_neg (by omega)] at h
        omega
    obtain ⟨a, rfl, ca⟩ := hr 1 (by omega)
    generalize zs.getD 1 0 = x at *
    have i1 : ¬ (n : Int) < (least : Int) := by omega
    have i2 : ¬ (n : Int) < 2 := by omega
    have i3 : (n : Int) < 8 * (x + 1) := by omega
    have i4 : (1 : Int) < (n : Int) := by omega
    have hca : w.cell? ⟨a.block, a.off + 1, none⟩ = some (.int .u8 x) := ca
    clear h hr hz h3 ca
    go_enter Try.func47, Try.ntmps47
    go_wp2_with fail
    go_ret
    exact ⟨rfl, rfl⟩

theorem header_yes (A : Option Addr) (n c least : Nat) (zs : List Int) (w : World) (hl : zs.length = n) (hc : n ≤ c) (hz : Byt zs) (hr : Rd w A zs) (h : hdr zs least ≠ 0) :
    Calls Try.prog 47 #[.slice A n c, .int .i64 least] w fun e w' => e = .returned (.slice A (hdr zs least) c) ∧ w = w' := by
  obtain ⟨m, hm⟩ : ∃ m, hdr zs least = m := ⟨_, rfl⟩
  rw [hm] at h ⊢
  have hle := hdr_le zs least
  rw [hm] at hle
  unfold hdr at hm
  have hb := hz.at_ 1
  have hcond : ¬ (zs.length < least ∨ zs.length < 2 ∨ zs.length < 8 * ((zs.getD 1 0).toNat + 1)) := by
    intro hq
    rw [if_pos hq] at hm
    omega
  rw [if_neg hcond] at hm
  obtain ⟨a, rfl, ca⟩ := hr 1 (by omega)
  generalize zs.getD 1 0 = x at *
  have i1 : ¬ (n : Int) < (least : Int) := by omega
  have i2 : ¬ (n : Int) < 2 := by omega
  have e3 : 8 * (x + 1) = (m : Int) := by omega
  have i3 : ¬ (n : Int) < (m : Int) := by omega
  have i5 : (m : Int) ≤ (c : Int) := by omega
  have i6 : (0 : Int) ≤ (m : Int) := by omega
  have i4 : (1 : Int) < (n : Int) := by omega
  have hca : w.cell? ⟨a.block, a.off + 1, none⟩ = some (.int .u8 x) := ca
  clear hm hr hz hcond ca hle h
  go_enter Try.func47, Try.ntmps47
  go_wp2_with fail
  go_ret
  exact ⟨rfl, rfl⟩

end Go.Proofs.Ytfkjfdmepeahnaa.Hd
