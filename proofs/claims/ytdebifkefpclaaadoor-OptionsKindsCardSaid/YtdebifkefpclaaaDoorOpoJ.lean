/-
  Lists of bytes, one behind the other, by the code; a number's bytes.
  Conditions: at most 16000000 bytes all in all.
-/
import Derived.Test.YtdebifkefpclaaaDoorOpoP
namespace Go.Proofs.YtdebifkefpclaaaDoor.Oz
set_option maxRecDepth 100000
open Go.RowKit Ops

/-- slices that read as lists of bytes -/
def ReadsL (w : World) (A : Option Addr) (ls : List (List Int)) : Prop := ∀ (i : Nat) (zs : List Int), ls[i]? = some zs → ∃ a B m c, A = some a ∧ w.cell? (a.add i) = some (.slice B m c) ∧ Slc w (.slice B m c) zs
def lenL (ls : List (List Int)) : Nat := ls.flatten.length
theorem lenL_next {ls : List (List Int)} {i : Nat} {zs : List Int} (h : ls[i]? = some zs) : (ls.take (i + 1)).flatten = (ls.take i).flatten ++ zs := by
  have : ls.take (i + 1) = ls.take i ++ [zs] := by
    rw [List.take_add_one, h]
    rfl
  rw [this]
  simp
theorem lenL_take (ls : List (List Int)) (i : Nat) : lenL (ls.take i) ≤ lenL ls := by
  have : ls.flatten = (ls.take i).flatten ++ (ls.drop i).flatten := by rw [← List.flatten_append, List.take_append_drop]
  unfold lenL
  rw [this, List.length_append]
  omega
theorem join_eq {l0 d : List Int} {p q r m : Nat} (h0 : l0.length = q) (hm : d.length = m) (h1 : m ≤ r) (hp : 0 < r → p = q) (hpr : p ≤ q + r) :
    (bv (l0 ++ List.replicate r 0)).take p ++ bv (d.take m) ++ (bv (l0 ++ List.replicate r 0)).drop (p + m) = bv (l0 ++ d ++ List.replicate (r - m) 0) := by
  have t : ∀ (l : List Int) (k : Nat), (bv l).take k = bv (l.take k) := fun l k => by simp [bv]
  have u : ∀ (l : List Int) (k : Nat), (bv l).drop k = bv (l.drop k) := fun l k => by simp [bv]
  have v : ∀ (l m : List Int), bv l ++ bv m = bv (l ++ m) := fun l m => by simp [bv]
  have hd : d.take m = d := List.take_of_length_le (by omega)
  rw [t, u, v, v, hd]
  congr 1
  by_cases hr : 0 < r
  · obtain rfl := hp hr
    rw [List.take_left' h0, ← List.drop_drop, List.drop_left' h0, List.drop_replicate]
  · obtain rfl : r = 0 := by omega
    obtain rfl : m = 0 := by omega
    have : d = [] := List.eq_nil_of_length_eq_zero hm
    subst this
    simp [List.take_append_drop]

set_option linter.unusedSimpArgs false in
set_option maxHeartbeats 4000000 in
theorem join_any (A : Option Addr) (n c : Nat) (ls : List (List Int)) (w : World) (hl : ls.length = n) (hn : n ≤ 1000000) (ha : ReadsL w A ls) (hz : lenL ls ≤ 16000000) :
    Calls Tryd.prog 73 #[.slice A n c] w fun e w' => ∃ g, w.heap.size ≤ g ∧ e = .returned (.slice (some ⟨g, 0, none⟩) (lenL ls) (lenL ls)) ∧ Row w' g 5 (bv ls.flatten).toArray ∧ Below w.heap.size w w' := by
  have HA := veil ha
  have HL := veil hl
  have HZ := veil hz
  have in16 : (n : Int) ≤ 2000000 := by omega
  clear ha hl hz
  go_enter Tryd.func73, Tryd.ntmps73
  go_wp2_with fail
  go_loopw [3, 12] (fun s3 s12 wr => ∃ i : Nat, i ≤ n ∧ s12 = .int .i64 i ∧ s3 = .int .i64 (lenL (ls.take i)) ∧ Hid (Below w.heap.size w wr)) (fun _ s12 _ => n - (intOf s12).toNat)
  case atStart => exact ⟨0, Nat.zero_le _, rfl, by simp [lenL], veil (Below.refl _ _)⟩
  case round =>
    rename_i wr
    obtain ⟨i, hi, rfl, rfl, VB⟩ := hrel
    by_cases hlt : i < n
    · have ij : (i : Int) < (n : Int) := by omega
      obtain ⟨zs, ho⟩ : ∃ o, ls[i]? = some o := ⟨_, List.getElem?_eq_getElem (by rw [HL.out]; exact hlt)⟩
      obtain ⟨a, B, m, d, rfl, c1, s1⟩ := HA.out i zs ho
      have c1 := cell_keep c1 VB.out
      obtain rfl : zs.length = m := (slc_of s1).1
      have hle := lenL_take ls (i + 1)
      have hs : lenL (ls.take (i + 1)) = lenL (ls.take i) + zs.length := by unfold lenL; rw [lenL_next ho, List.length_append]
      obtain ⟨q, hq⟩ : ∃ q, lenL (ls.take i) = q := ⟨_, rfl⟩
      rw [hq] at hs
      rw [hq]
      have HS := veil hs
      have i5 : (q : Int) + (zs.length : Int) ≤ 16000000 := by have := HZ.out; omega
      clear s1 ho hle hs hq
      generalize zs.length = m at *
      go_wp2_with fail
      go_roundw
      case rel => exact ⟨i + 1, by omega, by go_num, by rw [HS.out]; go_num, VB⟩
      case measure => simp [intOf]; omega
    · obtain rfl : i = n := by omega
      have ij : ¬ (i : Int) < (i : Int) := by omega
      rw [List.take_of_length_le (by rw [HL.out]; omega)]
      obtain ⟨N, hN⟩ : ∃ N, lenL ls = N := ⟨_, rfl⟩
      rw [hN]
      have HN := veil hN
      have iN : (N : Int) ≤ 16000000 := by have := HZ.out; omega
      have hmk := run_make_u8 N (by omega) wr
      have VB' := veil VB.out
      clear VB
      have Y0 := ((Lay.begin w).keep VB'.out).newA (zeros N) 5 (g := wr.heap.size) rfl
      rw [show (zeros N).toList = bv ((ls.take 0).flatten ++ List.replicate N 0) by rw [zeros_list]; simp [bv]] at Y0
      have VY := veil Y0
      have hgb : w.heap.size ≤ wr.heap.size := VB'.out.size
      clear Y0 hN
      go_wp2_with fail
      clear VB'
      generalize wr.alloc (.cells (zeros N) 5) = wb at *
      generalize wr.heap.size = gb at *
      clear hmk
      go_loopw [7, 26] (fun s7 s26 wq => ∃ (j p r : Nat), j ≤ i ∧ s26 = .int .i64 j ∧ s7 = .slice (some ⟨gb, p, none⟩) r r ∧ lenL (ls.take j) + r = N ∧ Hid (0 < r → p = lenL (ls.take j)) ∧ Hid (p ≤ lenL (ls.take j) + r) ∧ Hid (Lay w wq [(gb, 5, bv ((ls.take j).flatten ++ List.replicate r 0))])) (fun _ s26 _ => i - (intOf s26).toNat)
      case atStart => exact ⟨0, 0, N, Nat.zero_le _, rfl, rfl, by simp [lenL], veil (fun _ => by simp [lenL]), veil (Nat.zero_le _), VY⟩
      case round =>
        rename World => wq
        obtain ⟨j, p, r, hj, rfl, rfl, hr, hp, hpr, VZ⟩ := hrel
        clear VY
        by_cases hlt : j < i
        · have ij : (j : Int) < (i : Int) := by omega
          obtain ⟨zs, ho⟩ : ∃ o, ls[j]? = some o := ⟨_, List.getElem?_eq_getElem (by rw [HL.out]; exact hlt)⟩
          obtain ⟨a, B, m, d, rfl, c1, s1⟩ := HA.out j zs ho
          have hml := (slc_of s1).1
          have c1 := cell_keep c1 VZ.out.below
          have s1 := s1.keep VZ.out.below
          have hle := lenL_take ls (j + 1)
          have hs : lenL (ls.take (j + 1)) = lenL (ls.take j) + m := by unfold lenL; rw [lenL_next ho, List.length_append, hml]
          have hmr : m ≤ r := by have := HN.out; omega
          have hpm : p + m ≤ (ls.take j).flatten.length + r := by
            have h1 := hpr.out
            have h2 := hp.out
            unfold lenL at h1 h2
            by_cases h0 : 0 < r
            · have := h2 h0
              omega
            · omega
          have CP := copy_min (N := r) (c := r) (g := gb) (o := p) (m := m) 3 s1 (VZ.out.at mem0) (by omega) (by rw [bv_length, List.length_append, List.length_replicate]; exact hpm)
          have Y8 := VZ.out.put 0 rfl ((bv ((ls.take j).flatten ++ List.replicate r 0)).take p ++ bv (zs.take m) ++ (bv ((ls.take j).flatten ++ List.replicate r 0)).drop (p + m))
          simp only [List.set_cons_zero] at Y8
          obtain ⟨w7, hw7⟩ : ∃ u, wq.setRow gb ((bv ((ls.take j).flatten ++ List.replicate r 0)).take p ++ bv (zs.take m) ++ (bv ((ls.take j).flatten ++ List.replicate r 0)).drop (p + m)).toArray = u := ⟨_, rfl⟩
          rw [hw7] at CP Y8
          rw [join_eq rfl hml hmr hp.out hpr.out, ← lenL_next ho] at Y8
          have VY9 := veil Y8
          have VCP := veil CP
          have hsz : Hid (lenL (ls.take (j + 1)) + (r - m) = N) := veil (by rw [hs]; omega)
          obtain ⟨p', hp'⟩ : ∃ x, (if r = m then p else p + m) = x := ⟨_, rfl⟩
          have hpp : Hid (0 < r - m → p' = lenL (ls.take (j + 1))) := veil (fun h => by rw [← hp', if_neg (by omega), hs, hp.out (by omega)])
          have hpq : Hid (p' ≤ lenL (ls.take (j + 1)) + (r - m)) := veil (by
            rw [← hp', hs]
            have := hpr.out
            by_cases h0 : 0 < r
            · have := hp.out h0
              split <;> omega
            · split <;> omega)
          have E52 : ∀ u, (Instr.sliceAt 26 (.slice (some ⟨gb, p, none⟩) r r) (some (.int .i64 (m : Int))) none none).run Tryd.prog u = .ok (.slice (some ⟨gb, p', none⟩) (r - m) (r - m)) u := fun u => by
            have := slice_lo (A := some ⟨gb, p, none⟩) (n := r) (c := r) (k := m) (by omega) u
            rw [cutA_ct, hp'] at this
            exact this
          clear Y8 hw7 hp' VZ s1 hle hs hml CP hp hpr ho
          go_wp2_with (first | (refine wpList_copy_of rfl (.tmp 31) (.tmp 32) rfl rfl rfl VCP.out ?_))
          go_roundw
          case rel => exact ⟨j + 1, p', r - m, by omega, by go_num, rfl, hsz.out, hpp, hpq, VY9⟩
          case measure => simp [intOf]; omega
        · obtain rfl : j = i := by omega
          have ij : ¬ (j : Int) < (j : Int) := by omega
          have hfull : ls.take j = ls := List.take_of_length_le (by rw [HL.out]; omega)
          rw [hfull] at VZ hr
          obtain rfl : r = 0 := by have := HN.out; omega
          have hrow : Hid (Row wq gb 5 (bv ls.flatten).toArray) := veil (by
            have := VZ.out.at mem0
            rwa [show ls.flatten ++ List.replicate 0 0 = ls.flatten by simp] at this)
          have VB9 := veil VZ.out.below
          clear VZ hp hpr
          go_wp2_with fail
          go_ret
          rw [HN.out]
          exact ⟨gb, hgb, rfl, hrow.out, VB9.out⟩

end Go.Proofs.YtdebifkefpclaaaDoor.Oz
