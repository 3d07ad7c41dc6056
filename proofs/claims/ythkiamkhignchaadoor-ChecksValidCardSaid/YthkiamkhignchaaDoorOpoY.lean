/-
  The law's TwinOptions and LeftOptions, whatever options there are.
  Conditions: a list that reads as options; at most 16000000 bytes each.
-/
import Derived.Test.YthkiamkhignchaaDoorOpoT
import Derived.Test.YthkiamkhignchaaDoorOpoU
import Derived.StillTailTactics
import Derived.Deep.RegionHeld3
import Derived.BigRegion
namespace Go.Proofs.YthkiamkhignchaaDoor.Oz
set_option maxRecDepth 100000
open Go.RowKit Ops

theorem twinBy (A : Option Addr) (n c : Nat) (zs : List Int) (w : World) (hl : zs.length = n) (hn : n ≤ 16000000) (hr : Rd w A zs) :
    Calls Tryd.prog 21 #[.slice A n c] w fun e w' => ∃ g, w.heap.size ≤ g ∧ e = .returned (.slice (some ⟨g, 0, none⟩) n (n + 4)) ∧ TwinAt w' g zs ∧ Below w.heap.size w w' :=
  (twinBytes_any A n c zs w hl hn hr).mono fun _ _ ⟨he, hw⟩ => ⟨_, Nat.le_refl _, he, by subst hw; exact row_new rfl, by subst hw; exact below_new _ _⟩
theorem Twins.drew {w0 w : World} {g i : Nat} {ls : List El} {os : List (Int × List Int)} (h : Twins w0 w g ls os i) : Twins w0 w.drew g ls os i := ⟨h.len, h.row, h.own, h.each, h.room, h.apart, still_below h.below⟩

set_option linter.unusedSimpArgs false in
set_option maxHeartbeats 8000000 in
theorem twinOptions_any (A : Option Addr) (n c : Nat) (os : List (Int × List Int)) (w : World) (hl : os.length = n) (hn : n ≤ 1000000) (ha : Reads w A os) (hz : ∀ o ∈ os, o.2.length ≤ 16000000) :
    Calls Tryd.prog 22 #[.slice A n c] w fun e w' => ∃ g ls, e = .returned (.slice (some ⟨g, 0, none⟩) n (n + 4)) ∧ Twins w w' g ls os (n + 4) := by
  have hmk := run_make_opt (n + 4) (by omega) w
  simp only [Int.natCast_add, Int.cast_ofNat_Int] at hmk
  have T0 := Twins.begin w os n hl
  have HA := veil ha
  have HL := veil hl
  have HZ := veil hz
  have in16 : (n : Int) ≤ 1000000 := by omega
  obtain ⟨g, hg⟩ : ∃ g, w.heap.size = g := ⟨_, rfl⟩
  rw [hg] at hmk T0
  generalize w.alloc (.cells (cv (List.replicate (n + 4) ⟨0, none, 0, 0⟩)).toArray 46) = w1 at hmk T0
  generalize List.replicate (n + 4) (⟨0, none, 0, 0⟩ : El) = ls0 at T0
  have VT := veil T0
  clear ha hl hz T0 hg
  go_enter Tryd.func22, Tryd.ntmps22
  go_wp2_with fail
  clear hmk
  go_loopw [4] (fun s4 wr => ∃ (i : Nat) (ls : List El), i ≤ n + 4 ∧ s4 = .int .i64 i ∧ Hid (Twins w wr g ls os i)) (fun s4 _ => n + 4 - (intOf s4).toNat)
  case atStart => exact ⟨0, ls0, Nat.zero_le _, rfl, VT⟩
  case round =>
    rename World => wr
    obtain ⟨i, ls, hi, rfl, VR⟩ := hrel
    clear VT
    by_cases hlt : i < n + 4
    · have ij : (i : Int) < (n : Int) + 4 := by omega
      have T1 := veil (VR.out.store (by rw [HL.out]; exact hlt) ⟨201, none, 0, 0⟩)
      have V1 := VR.out.put ⟨201, none, 0, 0⟩
      have hi1 : (ls.set i ⟨201, none, 0, 0⟩)[i]? = some ⟨201, none, 0, 0⟩ := by rw [List.getElem?_set_self]; rw [VR.out.len, HL.out]; exact hlt
      generalize wr.setRow g (cv (ls.set i ⟨201, none, 0, 0⟩)).toArray = w2 at T1 V1
      generalize ls.set i ⟨201, none, 0, 0⟩ = ls2 at V1 hi1
      clear VR
      by_cases hin : i < n
      · have ijn : (i : Int) < (n : Int) := by omega
        obtain ⟨o, ho⟩ : ∃ o, os[i]? = some o := ⟨_, List.getElem?_eq_getElem (by rw [HL.out]; exact hin)⟩
        obtain ⟨a, x, rfl, X, k1, s1⟩ := HA.out i o ho
        have X2 := X.keep V1.below
        have s2 := s1.keep V1.below
        have hon := HZ.out o (List.mem_of_getElem? ho)
        have hfar : ∀ (j b : Nat) (y : El), j < i → ls2[j]? = some y → y.A = some ⟨b, 0, none⟩ → b < w2.heap.size := fun j b y h1 h2 h3 => V1.far (by rw [HL.out]; omega) j b y h1 h2 h3
        obtain ⟨xk, xA, xn, xc⟩ := x
        have hxn : o.2.length = xn := (slc_of s2).1
        have KT := veil (twinBy xA xn xc o.2 w2.drew hxn (by omega) (slc_of s2).2.1)
        have C0 := veil (show w2.drew.cell? (a.add (i * 2)) = some (.int .u8 xk) ∧ w2.drew.cell? ⟨(a.add (i * 2)).block, (a.add (i * 2)).off + 1, none⟩ = some (.slice xA xn xc) from ⟨X2.kind, X2.data⟩)
        have VX := veil X
        have VV := veil V1
        have HO := veil ho
        have HF := veil hfar
        have HK := veil (show o.1 = xk from k1.symm)
        have HN := veil hxn
        have c0 := X2.kind
        have c1 := X2.data
        clear X X2 s1 s2 k1 V1 ho hfar hon hxn
        go_wp2_with (refine wpList_store_of rfl _ _ rfl rfl rfl T1.out ?_)
        clear T1
        refine wp_region_noPanic ?_
        refine wp_region_held_drew (S := fun w' => w'.cell? (a.add (i * 2)) = some (.int .u8 xk) ∧ w'.cell? ⟨(a.add (i * 2)).block, (a.add (i * 2)).off + 1, none⟩ = some (.slice xA xn xc)) (by kernel_rfl) C0.out (fun hHeld => ?_)
        refine wpAnyH_take (i := 0) (v := ?_) (by rfl) (by kernel_rfl) (by kernel_rfl) (by kernel_rfl) (fun _ _ _ h => h) (Or.inl ⟨by rfl, ?_⟩) hHeld ?_
        rotate_left
        · intro w' hSw
          (try dsimp only at hSw)
          simp only [List.getElem_toArray, List.getElem_cons_zero, List.getElem_cons_succ]
          go_simp
          all_goals (try with_reducible rfl)
        try simp only [Act.put, List.setIfInBounds_toArray, List.set_cons_zero, List.set_cons_succ, List.getElem_toArray, List.getElem_cons_zero, List.getElem_cons_succ]
        refine wpAnyH_take (i := 1) (v := ?_) (by rfl) (by kernel_rfl) (by kernel_rfl) (by kernel_rfl) (fun _ _ _ h => h) (Or.inl ⟨by rfl, ?_⟩) hHeld ?_
        rotate_left
        · intro w' hSw
          (try dsimp only at hSw)
          simp only [List.getElem_toArray, List.getElem_cons_zero, List.getElem_cons_succ]
          go_simp
          all_goals (try with_reducible rfl)
        try simp only [Act.put, List.setIfInBounds_toArray, List.set_cons_zero, List.set_cons_succ, List.getElem_toArray, List.getElem_cons_zero, List.getElem_cons_succ]
        refine wpAnyH_take (i := 2) (v := ?_) (by rfl) (by kernel_rfl) (by kernel_rfl) (by kernel_rfl) (fun _ _ _ h => h) (Or.inl ⟨by rfl, ?_⟩) hHeld ?_
        rotate_left
        · intro w' hSw
          (try dsimp only at hSw)
          simp only [List.getElem_toArray, List.getElem_cons_zero, List.getElem_cons_succ]
          go_simp
          all_goals (try with_reducible rfl)
        try simp only [Act.put, List.setIfInBounds_toArray, List.set_cons_zero, List.set_cons_succ, List.getElem_toArray, List.getElem_cons_zero, List.getElem_cons_succ]
        refine wpAnyH_take (i := 3) (v := ?_) (by rfl) (by kernel_rfl) (by kernel_rfl) (by kernel_rfl) (fun _ _ _ h => h) (Or.inl ⟨by rfl, ?_⟩) hHeld ?_
        rotate_left
        · intro w' hSw
          (try dsimp only at hSw)
          simp only [List.getElem_toArray, List.getElem_cons_zero, List.getElem_cons_succ]
          go_simp
          all_goals (try with_reducible rfl)
        try simp only [Act.put, List.setIfInBounds_toArray, List.set_cons_zero, List.set_cons_succ, List.getElem_toArray, List.getElem_cons_zero, List.getElem_cons_succ]
        refine wpAnyH_take (i := 4) (v := ?_) (by rfl) (by kernel_rfl) (by kernel_rfl) (by kernel_rfl) (fun _ _ _ h => h) (Or.inl ⟨by rfl, ?_⟩) hHeld ?_
        rotate_left
        · intro w' hSw
          (try dsimp only at hSw)
          simp only [List.getElem_toArray, List.getElem_cons_zero, List.getElem_cons_succ]
          go_simp
          all_goals (try with_reducible rfl)
        try simp only [Act.put, List.setIfInBounds_toArray, List.set_cons_zero, List.set_cons_succ, List.getElem_toArray, List.getElem_cons_zero, List.getElem_cons_succ]
        refine wpAnyH_take (i := 5) (v := ?_) (by rfl) (by kernel_rfl) (by kernel_rfl) (by kernel_rfl) (fun _ _ _ h => h) (Or.inl ⟨by rfl, ?_⟩) hHeld ?_
        rotate_left
        · intro w' hSw
          (try dsimp only at hSw)
          simp only [List.getElem_toArray, List.getElem_cons_zero, List.getElem_cons_succ]
          go_simp
          all_goals (try with_reducible rfl)
        try simp only [Act.put, List.setIfInBounds_toArray, List.set_cons_zero, List.set_cons_succ, List.getElem_toArray, List.getElem_cons_zero, List.getElem_cons_succ]
        refine wpAnyH_take (i := 6) (v := ?_) (by rfl) (by kernel_rfl) (by kernel_rfl) (by kernel_rfl) (fun _ _ _ h => h) (Or.inl ⟨by rfl, ?_⟩) hHeld ?_
        rotate_left
        · intro w' hSw
          (try dsimp only at hSw)
          simp only [List.getElem_toArray, List.getElem_cons_zero, List.getElem_cons_succ]
          go_simp
          all_goals (try with_reducible rfl)
        try simp only [Act.put, List.setIfInBounds_toArray, List.set_cons_zero, List.set_cons_succ, List.getElem_toArray, List.getElem_cons_zero, List.getElem_cons_succ]
        refine wpAnyH_take (i := 7) (v := ?_) (by rfl) (by kernel_rfl) (by kernel_rfl) (by kernel_rfl) (fun _ _ _ h => h) (Or.inl ⟨by rfl, ?_⟩) hHeld ?_
        rotate_left
        · intro w' hSw
          (try dsimp only at hSw)
          simp only [List.getElem_toArray, List.getElem_cons_zero, List.getElem_cons_succ]
          go_simp
          all_goals (try with_reducible rfl)
        try simp only [Act.put, List.setIfInBounds_toArray, List.set_cons_zero, List.set_cons_succ, List.getElem_toArray, List.getElem_cons_zero, List.getElem_cons_succ]
        refine wpAnyH_take (i := 8) (v := ?_) (by rfl) (by kernel_rfl) (by kernel_rfl) (by kernel_rfl) (fun _ _ _ h => h) (Or.inl ⟨by rfl, ?_⟩) hHeld ?_
        rotate_left
        · intro w' hSw
          (try dsimp only at hSw)
          simp only [List.getElem_toArray, List.getElem_cons_zero, List.getElem_cons_succ]
          go_simp
          all_goals (try with_reducible rfl)
        try simp only [Act.put, List.setIfInBounds_toArray, List.set_cons_zero, List.set_cons_succ, List.getElem_toArray, List.getElem_cons_zero, List.getElem_cons_succ]
        refine wpAnyH_take (i := 9) (v := ?_) (by rfl) (by kernel_rfl) (by kernel_rfl) (by kernel_rfl) (fun _ _ _ h => h) (Or.inl ⟨by rfl, ?_⟩) hHeld ?_
        rotate_left
        · intro w' hSw
          (try dsimp only at hSw)
          simp only [List.getElem_toArray, List.getElem_cons_zero, List.getElem_cons_succ]
          go_simp
          all_goals (try with_reducible rfl)
        try simp only [Act.put, List.setIfInBounds_toArray, List.set_cons_zero, List.set_cons_succ, List.getElem_toArray, List.getElem_cons_zero, List.getElem_cons_succ]
        refine wpAnyH_take (i := 10) (v := ?_) (by rfl) (by kernel_rfl) (by kernel_rfl) (by kernel_rfl) (fun _ _ _ h => h) (Or.inl ⟨by rfl, ?_⟩) hHeld ?_
        rotate_left
        · intro w' hSw
          (try dsimp only at hSw)
          simp only [List.getElem_toArray, List.getElem_cons_zero, List.getElem_cons_succ]
          go_simp
          all_goals (try with_reducible rfl)
        try simp only [Act.put, List.setIfInBounds_toArray, List.set_cons_zero, List.set_cons_succ, List.getElem_toArray, List.getElem_cons_zero, List.getElem_cons_succ]
        refine wpAnyH_take (i := 11) (v := ?_) (by rfl) (by kernel_rfl) (by kernel_rfl) (by kernel_rfl) (fun _ _ _ h => h) (Or.inl ⟨by rfl, ?_⟩) hHeld ?_
        rotate_left
        · intro w' hSw
          (try dsimp only at hSw)
          simp only [List.getElem_toArray, List.getElem_cons_zero, List.getElem_cons_succ]
          go_simp
          all_goals (try with_reducible rfl)
        try simp only [Act.put, List.setIfInBounds_toArray, List.set_cons_zero, List.set_cons_succ, List.getElem_toArray, List.getElem_cons_zero, List.getElem_cons_succ]
        refine wpAnyH_ready (rs := [12]) (by kernel_rfl) (by simp) ?_
        refine AllReadyH.cons (by rfl) (fun K hK => ?_) AllReadyH.nil
        simp only [List.getElem_toArray, List.getElem_cons_zero, List.getElem_cons_succ]
        go_simp
        refine (KT.out).mono ?_
        rintro e w3 ⟨q', hq', rfl, ht, qb⟩
        have V3 := VV.out.drew.keep qb
        have X3 := VX.out.keep V3.below
        have C2 := veil (show w3.cell? (a.add (i * 2)) = some (.int .u8 xk) ∧ w3.cell? ⟨(a.add (i * 2)).block, (a.add (i * 2)).off + 1, none⟩ = some (.slice xA xn xc) from ⟨X3.kind, X3.data⟩)
        have T3 := veil (V3.store (by rw [HL.out]; exact hlt) ⟨xk, some ⟨q', 0, none⟩, xn, xn + 4⟩)
        have V4 := V3.put ⟨xk, some ⟨q', 0, none⟩, xn, xn + 4⟩
        have hx4 : (ls2.set i ⟨xk, some ⟨q', 0, none⟩, xn, xn + 4⟩)[i]? = some ⟨xk, some ⟨q', 0, none⟩, xn, xn + 4⟩ := by rw [List.getElem?_set_self]; rw [V3.len, HL.out]; exact hlt
        have ht4 := twin_keep ht V3.row (cv (ls2.set i ⟨xk, some ⟨q', 0, none⟩, xn, xn + 4⟩)).toArray
        have X4 := VX.out.keep V4.below
        have hf4 : ∀ (j b : Nat) (y : El), j < i → (ls2.set i ⟨xk, some ⟨q', 0, none⟩, xn, xn + 4⟩)[j]? = some y → y.A = some ⟨b, 0, none⟩ → b < q' := fun j b y h1 h2 h3 => by
          rw [List.getElem?_set_ne (by omega)] at h2
          exact Nat.lt_of_lt_of_le (HF.out j b y h1 h2 h3) hq'
        generalize w3.setRow g (cv (ls2.set i ⟨xk, some ⟨q', 0, none⟩, xn, xn + 4⟩)).toArray = w4 at T3 V4 ht4 X4
        generalize ls2.set i ⟨xk, some ⟨q', 0, none⟩, xn, xn + 4⟩ = ls4 at V4 hx4 hf4
        have hx5 : ls4[i]? = some ⟨o.1, some ⟨q', 0, none⟩, o.2.length, o.2.length + 4⟩ := by rw [hx4, HK.out, HN.out]
        have V5 := veil (V4.next HO.out hx5 ht4 (Nat.le_trans VV.out.below.size hq') hf4)
        have C3 := veil (show w4.cell? (a.add (i * 2)) = some (.int .u8 xk) ∧ w4.cell? ⟨(a.add (i * 2)).block, (a.add (i * 2)).off + 1, none⟩ = some (.slice xA xn xc) from ⟨X4.kind, X4.data⟩)
        clear V3 X3 V4 hx4 ht4 X4 hf4 hx5 hq' ht qb
        (try dsimp only)
        refine hK.out _ _ C2.out (fun hHeld => ?_)
        clear hK K
        try simp only [Act.put, List.setIfInBounds_toArray, List.set_cons_zero, List.set_cons_succ, List.getElem_toArray, List.getElem_cons_zero, List.getElem_cons_succ]
        refine wpAnyH_take (i := 13) (v := ?_) (by rfl) (by kernel_rfl) (by kernel_rfl) (by kernel_rfl) (fun _ _ _ h => h) (Or.inl ⟨by rfl, ?_⟩) hHeld ?_
        rotate_left
        · intro w' hSw
          (try dsimp only at hSw)
          simp only [List.getElem_toArray, List.getElem_cons_zero, List.getElem_cons_succ]
          go_simp
          all_goals (try with_reducible rfl)
        try simp only [Act.put, List.setIfInBounds_toArray, List.set_cons_zero, List.set_cons_succ, List.getElem_toArray, List.getElem_cons_zero, List.getElem_cons_succ]
        refine wpAnyH_take (i := 14) (v := ?_) (by rfl) (by kernel_rfl) (by kernel_rfl) (by kernel_rfl) (fun _ _ _ h => h) (Or.inl ⟨by rfl, ?_⟩) hHeld ?_
        rotate_left
        · intro w' hSw
          (try dsimp only at hSw)
          simp only [List.getElem_toArray, List.getElem_cons_zero, List.getElem_cons_succ]
          go_simp
          all_goals (try with_reducible rfl)
        try simp only [Act.put, List.setIfInBounds_toArray, List.set_cons_zero, List.set_cons_succ, List.getElem_toArray, List.getElem_cons_zero, List.getElem_cons_succ]
        refine wpAnyH_ready (rs := [15]) (by kernel_rfl) (by simp) ?_
        refine AllReadyH.cons (by rfl) (fun K hK => ?_) AllReadyH.nil
        simp only [List.getElem_toArray, List.getElem_cons_zero, List.getElem_cons_succ]
        refine wp_store_of (.tmp 37) (.tmp 36) rfl rfl rfl T3.out ?_
        (try dsimp only)
        refine hK.out _ _ C3.out (fun hHeld => ?_)
        clear hK K
        try simp only [Act.put, List.setIfInBounds_toArray, List.set_cons_zero, List.set_cons_succ, List.getElem_toArray, List.getElem_cons_zero, List.getElem_cons_succ]
        refine wpAnyH_done (by kernel_rfl) ?_ _
        refine NoPanic.normal ?_
        clear hHeld
        clear C0 C2 C3 T3 KT
        go_wp2_with fail
        go_roundw
        case rel => exact ⟨i + 1, _, by omega, by go_num, V5⟩
        case measure => simp [intOf]; omega
      · have ijn : ¬ (i : Int) < (n : Int) := by omega
        have V5 := veil (V1.more (by rw [HL.out]; omega) hi1)
        clear V1 hi1
        go_wp2_with (refine wpList_store_of rfl _ _ rfl rfl rfl T1.out ?_)
        go_roundw
        case rel => exact ⟨i + 1, _, by omega, by go_num, V5⟩
        case measure => simp [intOf]; omega
    · obtain rfl : i = n + 4 := by omega
      have ij : ¬ ((n + 4 : Nat) : Int) < (n : Int) + 4 := by omega
      go_wp2_with fail
      go_ret
      exact ⟨g, rfl, ls, VR.out⟩


set_option linter.unusedSimpArgs false in
set_option maxHeartbeats 8000000 in
theorem leftOptions_true (g : Nat) (ls : List El) (B : Option Addr) (n d : Nat) (os : List (Int × List Int)) (w0 w : World) (hl : os.length = n) (hn : n ≤ 1000000) (T : Twins w0 w g ls os (n + 4)) (hb : Reads w B os) (hz : ∀ o ∈ os, o.2.length ≤ 16000000) :
    Calls Tryd.prog 33 #[.slice (some ⟨g, 0, none⟩) n (n + 4), .slice B n d] w fun e w' => e = .returned (.bool true) ∧ Below w.heap.size w w' := by
  have SO := veil (sameOptions_true (some ⟨g, 0, none⟩) B n (n + 4) d os w hl (by subst hl; exact T.reads) hb hn hz)
  have HB := veil hb
  have HL := veil hl
  have HZ := veil hz
  have HT := veil T
  have in16 : (n : Int) ≤ 1000000 := by omega
  clear hb hl hz T
  go_enter Tryd.func33, Tryd.ntmps33
  go_wp2_with fail
  refine (SO.out).mono ?_
  rintro e w1 ⟨rfl, q1⟩
  have VB := veil q1
  clear SO q1
  go_wp2_with fail
  go_loopw [5] (fun s5 wr => ∃ i : Nat, i ≤ n ∧ s5 = .int .i64 i ∧ Hid (Below w.heap.size w wr)) (fun s5 _ => n - (intOf s5).toNat)
  case atStart => exact ⟨0, Nat.zero_le _, rfl, VB⟩
  case round =>
    rename World => wr
    obtain ⟨i, hi, rfl, VR⟩ := hrel
    clear VB
    by_cases hlt : i < n
    · have ij : (i : Int) < (n : Int) := by omega
      obtain ⟨o, ho⟩ : ∃ o, os[i]? = some o := ⟨_, List.getElem?_eq_getElem (by rw [HL.out]; exact hlt)⟩
      obtain ⟨b, x, rfl, X, k1, s1⟩ := HB.out i o ho
      obtain ⟨q, h1, h2, _⟩ := HT.out.each i o (by omega) ho
      have X := X.keep VR.out
      have c1 := X.data
      have Y := (HT.out.elAt h1).keep VR.out
      have c2 : wr.cell? ⟨g, i * 2 + 1, none⟩ = some (.slice (some ⟨q, 0, none⟩) o.2.length (o.2.length + 4)) := Y.data
      obtain ⟨xk, xA, xn, xc⟩ := x
      have hxn : xn = o.2.length := ((slc_of s1).1).symm
      subst hxn
      have K := veil (leftBytes_true q xA o.2.length (o.2.length + 4) xc o.2 wr.drew rfl (HZ.out o (List.mem_of_getElem? ho)) ((h2.keep VR.out).keep (below_still (Below.refl _ _) ⟨1, rfl⟩)) (slc_of (s1.keep (still_below VR.out))).2.1 (Nat.le_refl _))
      clear X Y s1 k1 h1 h2 ho
      generalize o.2.length = m at *
      go_wp2_with fail
      go_still_tail 10, (by kernel_rfl)
      change wpList _ _ _ _ _ wr.drew
      have VD := veil (still_below VR.out)
      generalize wr.drew = w2 at *
      clear c1 c2 VR
      go_wp2_with fail
      refine (K.out).mono ?_
      rintro e w3 ⟨rfl, st⟩
      have VE := veil (VD.out.trans ((below_still (Below.refl _ _) st).mono VD.out.size))
      clear K VD st
      go_wp2_with fail
      go_roundw
      case rel => exact ⟨i + 1, by omega, by go_num, VE⟩
      case measure => simp [intOf]; omega
    · obtain rfl : i = n := by omega
      have ij : ¬ (i : Int) < (i : Int) := by omega
      go_wp2_with fail
      go_loopw [7] (fun s7 wq => ∃ j : Nat, j ≤ 4 ∧ s7 = .int .i64 j ∧ Hid (Below w.heap.size w wq)) (fun s7 _ => 4 - (intOf s7).toNat)
      case atStart => exact ⟨0, Nat.zero_le _, rfl, VR⟩
      case round =>
        rename World => wq
        obtain ⟨j, hj, rfl, VQ⟩ := hrel
        clear VR
        by_cases hlt4 : j < 4
        · have ij4 : (j : Int) < 4 := by omega
          have Y := (HT.out.elAt (HT.out.room (i + j) (by rw [HL.out]; omega) (by omega))).keep VQ.out
          have c1 : wq.cell? ⟨g, i * 2 + j * 2, none⟩ = some (.int .u8 201) := by rw [show i * 2 + j * 2 = (i + j) * 2 by omega]; exact Y.kind
          have c2 : wq.cell? ⟨g, i * 2 + j * 2 + 1, none⟩ = some (.slice none 0 0) := by rw [show i * 2 + j * 2 + 1 = (i + j) * 2 + 1 by omega]; exact Y.data
          clear Y
          go_wp2_with fail
          go_roundw
          case rel => exact ⟨j + 1, by omega, by go_num, VQ⟩
          case measure => simp [intOf]; omega
        · have ij4 : ¬ (j : Int) < 4 := by omega
          go_wp2_with fail
          go_ret
          exact ⟨rfl, VQ.out⟩

end Go.Proofs.YthkiamkhignchaaDoor.Oz
