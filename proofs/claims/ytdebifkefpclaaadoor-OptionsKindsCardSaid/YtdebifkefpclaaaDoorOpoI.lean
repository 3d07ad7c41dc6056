/-
  Whether a text is a name, and a name's bytes, by the code.
  Conditions: texts of at most 16000000 bytes; the library's cell holds a number.
-/
import Derived.Test.YtdebifkefpclaaaDoorOpoN
namespace Go.Proofs.YtdebifkefpclaaaDoor.Oz
set_option maxRecDepth 100000
open Go.RowKit Ops

theorem split_size (sep : ByteArray) : ∀ (k : Nat) (s : ByteArray), ∀ p ∈ Lib.splitB sep 0 k s, p.size ≤ s.size
  | 0, s, p, hp => by
    rw [Lib.splitB_zero, List.mem_singleton] at hp
    subst hp
    exact Nat.le_refl _
  | k + 1, s, p, hp => by
    unfold Lib.splitB at hp
    split at hp
    · rw [List.mem_singleton] at hp
      subst hp
      exact Nat.le_refl _
    · rcases List.mem_cons.1 hp with rfl | hp
      · rw [ByteArray.size_extract]
        omega
      · have := split_size sep k _ p hp
        rw [ByteArray.size_extract] at this
        omega
theorem part_size {s : Str} {p : ByteArray} (h : p ∈ partsB s) : p.data.toList.length ≤ s.length := by
  have := split_size _ _ _ p h
  rw [bs_size] at this
  rw [Array.length_toList]
  exact this

set_option linter.unusedSimpArgs false in
set_option maxHeartbeats 2000000 in
theorem isName_any (s : Str) (w : World) (hn : s.length ≤ 16000000) (hm : Mx w) : Calls Tryd.prog 77 #[.string (bs s)] w fun e w' => e = .returned (.bool (nameOk s)) ∧ Below w.heap.size w w' := by
  obtain ⟨n0, hn0⟩ : ∃ n, s.length = n := ⟨_, rfl⟩
  have hlen : (bs s).size = n0 := by rw [bs_size, hn0]
  have HN0 := veil hn0
  by_cases h253 : 253 < n0
  · have hf : Hid (nameOk s = false) := veil (by unfold nameOk; rw [decide_eq_false (by omega)]; rfl)
    have i1 : (253 : Int) < (n0 : Int) := by omega
    clear h253 hn0
    go_enter Tryd.func77, Tryd.ntmps77
    go_wp2_with fail
    go_ret
    rw [hf.out]
    exact ⟨rfl, Below.refl _ _⟩
  have hok : Hid (nameOk s = (parts s).all partOk) := veil (by unfold nameOk; rw [decide_eq_true (by omega)]; rfl)
  have i1 : ¬ (253 : Int) < (n0 : Int) := by omega
  have i2 : (n0 : Int) ≤ 253 := by omega
  have K := veil (split_any s w hn hm)
  have HM := veil (parts_many s)
  have HN := veil (show s.length ≤ 253 by omega)
  clear h253 hn0
  go_enter Tryd.func77, Tryd.ntmps77
  go_wp2_with fail
  refine (K.out).mono ?_
  rintro e w1 ⟨g, n, hg, hnn, rfl, hr, q⟩
  have HR := veil hr
  have HQ := veil q
  have HNN := veil hnn
  have i3 : (n : Int) ≤ 1000 := by have := HM.out; have := HN.out; omega
  clear K hr q hnn hlen hg
  go_wp2_with fail
  go_loopw [11] (fun s11 wr => ∃ j : Nat, j ≤ n ∧ s11 = .int .i64 j ∧ Hid (Below w1.heap.size w1 wr) ∧ Hid (∀ (i : Nat) (p : Str), i < j → (parts s)[i]? = some p → partOk p = true)) (fun s11 _ => n - (intOf s11).toNat)
  case atStart => exact ⟨0, Nat.zero_le _, rfl, veil (Below.refl _ _), veil (fun i p h => by omega)⟩
  case round =>
    rename World => wr
    obtain ⟨j, hj, rfl, VB, hA⟩ := hrel
    by_cases hlt : j < n
    · have ij : (j : Int) < (n : Int) := by omega
      obtain ⟨pb, hpb⟩ : ∃ pb, (partsB s)[j]? = some pb := ⟨_, List.getElem?_eq_getElem (by rw [← HNN.out]; exact hlt)⟩
      obtain ⟨p, hp⟩ : ∃ p, pb.data.toList = p := ⟨_, rfl⟩
      have hps : (parts s)[j]? = some p := by unfold parts; rw [List.getElem?_map, hpb, ← hp]; rfl
      have c1 : wr.cell? ⟨g, j, none⟩ = some (.string (bs p)) := by
        have := (HR.out.keep VB.out).cell j
        rw [this, List.getElem?_toArray, List.getElem?_map, hpb, ← hp, ← bs_of]
        rfl
      have KP := veil (isPart_any p wr (by have := part_size (List.mem_of_getElem? hpb); rw [hp] at this; omega))
      have HPS := veil hps
      clear hps hp hpb
      cases hz : partOk p
      · have hf : Hid (nameOk s = false) := veil (by
          rw [hok.out, List.all_eq_false]
          exact ⟨p, List.mem_of_getElem? HPS.out, by rw [hz]; decide⟩)
        have VQ := veil (HQ.out.trans (VB.out.mono HQ.out.size))
        rw [hz] at KP
        clear hz
        go_wp2_with fail
        refine (KP.out).mono ?_
        rintro e w2 ⟨rfl, rfl⟩
        clear KP
        go_wp2_with fail
        go_ret
        rw [hf.out]
        exact ⟨rfl, VQ.out⟩
      · rw [hz] at KP
        have HZ := veil hz
        clear hz
        go_wp2_with fail
        refine (KP.out).mono ?_
        rintro e w2 ⟨rfl, rfl⟩
        clear KP
        go_wp2_with fail
        go_roundw
        case rel => exact ⟨j + 1, by omega, by go_num, VB, veil (fun i p' hi h => by
          by_cases e : i < j
          · exact hA.out i p' e h
          · obtain rfl : i = j := by omega
            rw [HPS.out] at h
            injection h with h
            subst h
            exact HZ.out)⟩
        case measure => simp [intOf]; omega
    · obtain rfl : j = n := by omega
      have ij : ¬ (j : Int) < (j : Int) := by omega
      have hf : Hid (nameOk s = true) := veil (by
        rw [hok.out, List.all_eq_true]
        intro p hp
        obtain ⟨i, hi, e⟩ := List.getElem_of_mem hp
        have hil : i < j := by rw [HNN.out]; simpa [parts] using hi
        exact hA.out i p hil (by rw [List.getElem?_eq_getElem hi, e]))
      have VQ := veil (HQ.out.trans (VB.out.mono HQ.out.size))
      clear hA VB
      go_wp2_with fail
      go_ret
      rw [hf.out]
      exact ⟨rfl, VQ.out⟩

end Go.Proofs.YtdebifkefpclaaaDoor.Oz
