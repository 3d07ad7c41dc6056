/-
  The contract of package octets' Num, for every cutter that is not there, that is spoilt, or that is sound.
  Conditions: a cutter lies in a block of its own; what is left lies in a slice of at most its capacity, which reads as bytes.
-/
import Derived.Test.YtddmjenhpbbocaaOctB
import Derived.Test.YtddmjenhpbbocaaOctM

namespace Go.Proofs.Ytddmjenhpbbocaa
open Go.RowKit

/-- a slice at A reads as these bytes -/
def Rd (w : World) (A : Option Addr) (zs : List Int) : Prop := ∀ j, j < zs.length → ∃ a, A = some a ∧ w.cell? (a.add j) = some (.int .u8 (zs.getD j 0))
def Off (A : Option Addr) (g : Nat) : Prop := ∀ a, A = some a → a.block ≠ g

theorem block_add (a : Addr) (n : Nat) : (a.add n).block = a.block := by unfold Addr.add; split <;> rfl
theorem Rd.far {w : World} {A : Option Addr} {zs : List Int} {g : Nat} (h : Rd w A zs) (ho : Off A g) (i : Nat) (u : Value) : Rd (w.setCell ⟨g, i, none⟩ u) A zs := by
  intro j hj
  obtain ⟨a, rfl, hc⟩ := h j hj
  refine ⟨a, rfl, ?_⟩
  have hb := ho a rfl
  rw [← hc]
  exact World.cell?_of_block (Below.heap_setCell w ⟨g, i, none⟩ u _ (by rw [block_add]; exact hb))
theorem Rd.take {w : World} {A : Option Addr} {zs : List Int} (h : Rd w A zs) (k : Nat) : Rd w A (zs.take k) := by
  intro j hj
  obtain ⟨a, e, hc⟩ := h j (by simp at hj; omega)
  refine ⟨a, e, ?_⟩
  have hj' : j < k := by simp at hj; omega
  simpa [List.getD, hj'] using hc

/-- a store of what is there changes nothing -/
theorem set_same {w : World} {g i : Nat} {t : TypeId} {cs : Array Value} {u : Value} (h : Row w g t cs) (hi : cs[i]? = some u) : w.setCell ⟨g, i, none⟩ u = w := by
  rw [setCell_eq_setRow w g i cs t (0, 0) u h]
  have e : cs.setIfInBounds i u = cs := by
    apply Array.ext_getElem?
    intro k
    rw [Array.getElem?_setIfInBounds]
    split
    · rename_i e
      subst e
      split
      · exact hi.symm
      · rename_i hlt
        rw [Array.getElem?_eq_none (by omega)]
    · rfl
  rw [e]
  exact setRow_self w g cs t (0, 0) h

theorem num_of (p : Value) (k : Int) (A : Option Addr) (m : Nat) (zs : List Int) (w w1 : World) (h1 : 1 ≤ k) (h2 : k ≤ 8) (hm : zs.length = m) (hm8 : m ≤ 8) (hz : Byt zs) (hr : Rd w1 A zs)
    (hb : Calls Try.prog 24 #[p, .int .i64 k] w fun e w' => e = .returned (.slice A m m) ∧ w1 = w') :
    Calls Try.prog 23 #[p, .int .i64 k] w fun e w' => e = .returned (.int .u64 (num zs)) ∧ w1 = w' := by
  have HB := veil hb
  have HM := veil hm
  have HR := veil hr
  have HZ := veil hz
  clear hb hm hr hz
  go_enter Try.func23, Try.ntmps23
  go_wp2_with fail
  refine (width_yes k _ h1 h2).mono ?_
  rintro e w' ⟨rfl, rfl⟩
  go_wp2_with fail
  refine (HB.out).mono ?_
  rintro e w' ⟨rfl, rfl⟩
  go_wp2_with fail
  go_loop [5, 17] (fun n i => ∃ j : Nat, j ≤ m ∧ i = .int .i64 j ∧ n = .int .u64 (num (zs.take j))) (fun _ i => m - (intOf i).toNat)
  case atStart => exact ⟨0, Nat.zero_le _, rfl, rfl⟩
  case round =>
    obtain ⟨j, hj, rfl, rfl⟩ := hrel
    by_cases hlt : j < m
    · obtain ⟨a, rfl, hc⟩ := HR.out j (by rw [HM.out]; exact hlt)
      have hx := HZ.out.at_ j
      have hn := num_bound8 zs HZ.out j (by rw [HM.out]; omega) (by omega)
      have E := veil (num_next zs j (by rw [HM.out]; exact hlt))
      have F := veil (or_step (num (zs.take j)) (zs.getD j 0) hn.1 hn.2 hx.1 hx.2)
      clear hx hn
      go_wp2
      go_round
      case rel => exact ⟨j + 1, by omega, by go_num, by rw [E.out, ← F.out]; simp⟩
      case measure => simp [intOf]; omega
    · go_wp2
      go_ret
      have e : j = m := by omega
      rw [show zs.take j = zs from List.take_of_length_le (by rw [HM.out]; omega)]
      simp

theorem num_nil (k : Int) (w : World) : Calls Try.prog 23 #[.pointer none, .int .i64 k] w fun e w' => e = .returned (.int .u64 0) ∧ w = w' := by
  by_cases hk : 1 ≤ k ∧ k ≤ 8
  · exact num_of _ k none 0 [] w w hk.1 hk.2 rfl (by omega) (by simp [Byt]) (by simp [Rd]) (bytes_nil k w)
  · have H := veil (show k < 1 ∨ 8 < k by omega)
    clear hk
    go_enter Try.func23, Try.ntmps23
    go_wp2_with fail
    refine (width_no k _ H.out).mono ?_
    rintro e w' ⟨rfl, rfl⟩
    go_wp2_with fail
    refine (spoil_nil _).mono ?_
    rintro e w' ⟨rfl, rfl⟩
    go_wp2_with fail
    go_ret
    exact ⟨rfl, rfl⟩

/-- a cutter that has nothing and is spoilt stays so -/
theorem num_bad (g : Nat) (k : Int) (w : World) (h : Row w g 48 #[.slice none 0 0, .bool false]) :
    Calls Try.prog 23 #[.pointer (some ⟨g, 0, none⟩), .int .i64 k] w fun e w' => e = .returned (.int .u64 0) ∧ w = w' := by
  by_cases hk : 1 ≤ k ∧ k ≤ 8
  · exact num_of _ k none 0 [] w w hk.1 hk.2 rfl (by omega) (by simp [Byt]) (by simp [Rd]) (bytes_bad g _ k w h)
  · have H := veil (show k < 1 ∨ 8 < k by omega)
    clear hk
    go_enter Try.func23, Try.ntmps23
    go_wp2_with fail
    refine (width_no k _ H.out).mono ?_
    rintro e w' ⟨rfl, rfl⟩
    go_wp2_with fail
    refine (spoil_at g _ _ _ h).mono ?_
    rintro e w' ⟨rfl, hw⟩
    have e0 : w.setCell ⟨g, 0, none⟩ (.slice none 0 0) = w := set_same h (by simp)
    have e1 : w.setCell ⟨g, 1, none⟩ (.bool false) = w := set_same h (by simp)
    rw [e0, e1] at hw
    subst hw
    clear e0 e1
    go_wp2_with fail
    go_ret
    exact ⟨rfl, rfl⟩

theorem num_over (g n c : Nat) (A : Option Addr) (k : Int) (w : World) (h : Row w g 48 #[.slice A n c, .bool true]) (hk : k < 1 ∨ 8 < k ∨ (n : Int) < k) :
    Calls Try.prog 23 #[.pointer (some ⟨g, 0, none⟩), .int .i64 k] w fun e w' => e = .returned (.int .u64 0) ∧ (w.setCell ⟨g, 0, none⟩ (.slice none 0 0)).setCell ⟨g, 1, none⟩ (.bool false) = w' := by
  by_cases hw : 1 ≤ k ∧ k ≤ 8
  · exact num_of _ k none 0 [] w _ hw.1 hw.2 rfl (by omega) (by simp [Byt]) (by simp [Rd]) (bytes_over g n c A k w h (by omega))
  · have H := veil (show k < 1 ∨ 8 < k by omega)
    clear hk hw
    go_enter Try.func23, Try.ntmps23
    go_wp2_with fail
    refine (width_no k _ H.out).mono ?_
    rintro e w' ⟨rfl, rfl⟩
    go_wp2_with fail
    refine (spoil_at g _ _ _ h).mono ?_
    rintro e w' ⟨rfl, rfl⟩
    go_wp2_with fail
    go_ret
    exact ⟨rfl, rfl⟩

theorem num_in (g n c k : Nat) (A : Option Addr) (zs : List Int) (w : World) (h : Row w g 48 #[.slice A n c, .bool true]) (hk : k ≤ n) (hc : n ≤ c) (h1 : 1 ≤ k) (h8 : k ≤ 8)
    (hl : zs.length = n) (hz : Byt zs) (hr : Rd w A zs) (ho : Off A g) :
    Calls Try.prog 23 #[.pointer (some ⟨g, 0, none⟩), .int .i64 k] w fun e w' => e = .returned (.int .u64 (num (zs.take k))) ∧ w.setCell ⟨g, 0, none⟩ (.slice (cutA A c k) (n - k) (c - k)) = w' :=
  num_of _ (k : Int) A k (zs.take k) w _ (by omega) (by omega) (by simp; omega) h8 (hz.take k) ((hr.far ho 0 _).take k) (bytes_in g n c k A w h hk hc)

end Go.Proofs.Ytddmjenhpbbocaa
