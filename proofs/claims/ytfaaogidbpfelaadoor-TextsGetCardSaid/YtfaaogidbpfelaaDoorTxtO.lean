/-
  What the reference's Get answers, whatever text it is handed.
  Conditions: a text of at most 1000 bytes.
-/
import Derived.Test.YtfaaogidbpfelaaDoorTxtZ
namespace Go.Proofs.YtfaaogidbpfelaaDoor.Tx
open Go.RowKit Ad

/-- where the first two colons stand; below 0: nowhere -/
def atOf (b : Nat) : Option (Str × Str) → Int
  | some (a, _) => (b : Int) + a.length
  | none => -1
theorem cut2_short {s : Str} (h : s.length ≤ 1) : cut2 s = none := by
  match s, h with
  | [], _ => rfl
  | [x], _ => simp [cut2]
theorem atOf_yes {s : Str} {k : Nat} (hk : k + 1 < s.length) (h1 : s.getD k 0 = 58) (h2 : s.getD (k + 1) 0 = 58) : atOf k (cut2 (s.drop k)) = (k : Int) := by
  have e1 : s.drop k = s.getD k 0 :: s.drop (k + 1) := by
    rw [List.drop_eq_getElem_cons (by omega)]
    simp only [List.getD, List.getElem?_eq_getElem (show k < s.length by omega), Option.getD_some]
  have e2 : (s.drop (k + 1)).head? = some (s.getD (k + 1) 0) := by
    rw [List.head?_drop]
    simp only [List.getD, List.getElem?_eq_getElem hk, Option.getD_some]
  rw [e1, cut2, if_pos ⟨h1, by rw [e2, h2]⟩]
  simp [atOf]
theorem atOf_no {s : Str} {k : Nat} (hk : k + 1 < s.length) (h : ¬ (s.getD k 0 = 58 ∧ s.getD (k + 1) 0 = 58)) : atOf k (cut2 (s.drop k)) = atOf (k + 1) (cut2 (s.drop (k + 1))) := by
  have e1 : s.drop k = s.getD k 0 :: s.drop (k + 1) := by
    rw [List.drop_eq_getElem_cons (by omega)]
    simp only [List.getD, List.getElem?_eq_getElem (show k < s.length by omega), Option.getD_some]
  have e2 : (s.drop (k + 1)).head? = some (s.getD (k + 1) 0) := by
    rw [List.head?_drop]
    simp only [List.getD, List.getElem?_eq_getElem hk, Option.getD_some]
  rw [e1, cut2, if_neg (fun q => h ⟨q.1, by have := q.2; rw [e2] at this; exact Option.some.inj this⟩)]
  cases cut2 (s.drop (k + 1)) with
  | none => rfl
  | some p =>
    obtain ⟨a, b⟩ := p
    simp [atOf]
    omega
theorem slice_str (s : Str) {k : Nat} (hk : k ≤ s.length) {a : Str} (ha : s.take k = a) (u : World) : (Instr.sliceAt 9 (.string (bs s)) none (some (.int .i64 k)) none).run Tryd.prog u = .ok (.string (bs a)) u := by
  have h1 : (k : Int) ≤ (s.length : Int) := by omega
  have h2 := bs_cut s 0 k
  subst ha
  simp [Instr.sliceAt, run_underlying Tryd.underlying9, go_sem, bs_size, h1, h2]
theorem slice_rest (s : Str) {k : Nat} (hk : k ≤ s.length) {a : Str} (ha : s.drop k = a) (u : World) : (Instr.sliceAt 9 (.string (bs s)) (some (.int .i64 k)) none none).run Tryd.prog u = .ok (.string (bs a)) u := by
  have h1 : (k : Int) ≤ (s.length : Int) := by omega
  have h2 := bs_cut s k s.length
  rw [List.take_of_length_le (by simp)] at h2
  subst ha
  simp [Instr.sliceAt, run_underlying Tryd.underlying9, go_sem, bs_size, h1, h2]
theorem sideS_most {s : Str} {last : Bool} {l : List Nat} (h : sideS s last = some l) : l.length ≤ s.length + 2 := by
  unfold sideS at h
  split at h
  · injection h with h
    subst h
    simp
  · have h1 := side_most h
    have h2 := words_len 58 s
    omega
def getN : Option (List Nat) → Option (List Nat)
  | some l => if l.length = 8 then some l else none
  | none => none
def getG : Option (List Nat) → Option (List Nat) → Option (List Nat)
  | some l, some m => if l.length + m.length ≤ 7 then some (fill l m) else none
  | _, _ => none
theorem get_n {s : Str} (h : cut2 s = none) : get s = getN (sideS s true) := by
  unfold get
  rw [h]
  cases sideS s true <;> rfl
theorem get_g {s a b : Str} (h : cut2 s = some (a, b)) : get s = getG (sideS a false) (sideS b true) := by
  unfold get
  rw [h]
  simp only
  cases sideS a false with
  | none => rfl
  | some l => cases sideS b true <;> rfl
theorem sideS_lt8 {s : Str} {last : Bool} {l : List Nat} (h : sideS s last = some l) (h8 : l.length ≤ 8) : ∀ g ∈ l, g < 65536 := readL_lt (readL_side h h8)

def padMeas : Value → Nat
  | .slice _ n _ => 8 - n
  | _ => 0

set_option maxRecDepth 100000 in
set_option maxHeartbeats 8000000 in
theorem refGet_any (s : Str) (w : World) (hs : s.length ≤ 1000) : Calls Tryd.prog 12 #[.string (bs s)] w fun e w' => e = .returned (gres (get s)) ∧ Below w.heap.size w w' := by
  obtain ⟨Z, hZ⟩ : ∃ Z : Array Value, Z = #[.int .u8 0, .int .u8 0, .int .u8 0, .int .u8 0, .int .u8 0, .int .u8 0, .int .u8 0, .int .u8 0, .int .u8 0, .int .u8 0, .int .u8 0, .int .u8 0, .int .u8 0, .int .u8 0, .int .u8 0, .int .u8 0] := ⟨_, rfl⟩
  have hz2 : Hid (Z = (bv (List.replicate 16 0)).toArray) := by rw [hZ]; rfl
  obtain ⟨ZA, hZA⟩ : ∃ ZA : Array Value, ZA = #[.int .u8 0, .int .u8 0, .int .u8 0, .int .u8 0, .int .u8 0, .int .u8 0, .int .u8 0, .int .u8 0, .int .u8 0, .int .u8 0, .int .u8 0, .int .u8 0, .int .u8 0, .int .u8 0, .int .u8 0, .int .u8 0] := ⟨_, rfl⟩
  have hza2 : Hid (∀ F : List Nat, ZA = (bv (half F 0)).toArray) := fun F => by rw [hZA]; rfl
  have R := veil (row_new (w := w) (g := w.heap.size) (cs := Z) (t := 23) rfl)
  have B := veil (below_new w (.cells Z 23))
  have hsz := bs_size s
  obtain ⟨n, hn⟩ : ∃ n, s.length = n := ⟨_, rfl⟩
  rw [hn] at hsz hs
  have HN := veil hn
  have HS : Hid (∀ _ : Unit, n ≤ 1000) := fun _ => hs
  have hs' : (n : Int) ≤ 1000 := by omega
  obtain ⟨G, hG⟩ : ∃ G, get s = G := ⟨_, rfl⟩
  rw [hG]
  have HGG := veil hG
  obtain ⟨w1, hw1⟩ : ∃ w1, w.alloc (.cells Z 23) = w1 := ⟨_, rfl⟩
  rw [hw1] at R B
  have HW : Hid (w.alloc (.cells #[.int .u8 0, .int .u8 0, .int .u8 0, .int .u8 0, .int .u8 0, .int .u8 0, .int .u8 0, .int .u8 0, .int .u8 0, .int .u8 0, .int .u8 0, .int .u8 0, .int .u8 0, .int .u8 0, .int .u8 0, .int .u8 0] 23) = w1) := by rw [← hZ]; exact hw1
  clear hw1 hG hn hs hZ
  go_enter Tryd.func12, Tryd.ntmps12
  go_wp2_with fail
  rw [HW.out]
  clear HW
  go_loopw [4, 5] (fun a i wx => ∃ (i2 at2 : Int), a = .int .i64 at2 ∧ i = .int .i64 i2 ∧ Hid (-2 ≤ i2 ∧ i2 ≤ (n : Int) - 2 ∧ at2 = atOf (i2 + 1).toNat (cut2 (s.drop (i2 + 1).toNat))) ∧ w1 = wx) (fun _ i _ => (intOf i + 1).toNat)
  case atStart =>
    refine ⟨(n : Int) - 2, -1, rfl, rfl, ⟨by omega, Int.le_refl _, ?_⟩, rfl⟩
    have h1 : cut2 (s.drop ((n : Int) - 2 + 1).toNat) = none := cut2_short (by rw [List.length_drop, HN.out]; omega)
    rw [h1]
    rfl
  case round =>
    obtain ⟨i2, at2, rfl, rfl, hH, rfl⟩ := hrel
    obtain ⟨hi1, hi2, hat⟩ := hH.out
    by_cases hlt : 0 ≤ i2
    · obtain ⟨k, rfl⟩ : ∃ k : Nat, i2 = k := ⟨i2.toNat, by omega⟩
      have e1 : ((k : Int) + 1).toNat = k + 1 := by omega
      rw [e1] at hat
      have hkn : k + 1 < s.length := by rw [HN.out]; omega
      have hix := fun u => index_str s (i := k) (by omega) u
      obtain ⟨k1, hk1⟩ : ∃ k1, k + 1 = k1 := ⟨_, rfl⟩
      have hin := fun u => index_str s (i := k1) (by omega) u
      have s1 : IntKind.i64.wrap ((k : Int) + 1) = (k1 : Int) := by rw [IntWalk.i64_in _ (by have := HS.out (); omega)]; omega
      have s2 : IntKind.i64.wrap ((k : Int) - 1) = (k : Int) - 1 := by rw [IntWalk.i64_in _ (by have := HS.out (); omega)]
      have e2 : ((k : Int) - 1 + 1).toNat = k := by omega
      have hyes : s.getD k 0 = 58 → s.getD k1 0 = 58 → (k : Int) = atOf ((k : Int) - 1 + 1).toNat (cut2 (s.drop ((k : Int) - 1 + 1).toNat)) := fun h1 h2 => by rw [e2, atOf_yes hkn h1 (by rw [hk1]; exact h2)]
      have hno : ¬ (s.getD k 0 = 58 ∧ s.getD k1 0 = 58) → at2 = atOf ((k : Int) - 1 + 1).toNat (cut2 (s.drop ((k : Int) - 1 + 1).toNat)) := fun h => by rw [e2, hat, atOf_no hkn (by rw [hk1]; exact h)]
      have HY := veil hyes
      have HNO := veil hno
      have HI1 : Hid (-2 ≤ (k : Int) - 1 ∧ (k : Int) - 1 ≤ (n : Int) - 2) := ⟨by omega, by omega⟩
      by_cases hx : s.getD k 0 = 58
      · rw [hx] at hix
        have hix : ∀ u, (Instr.index 9 (.string (bs s)) (.int .i64 k)).run Tryd.prog u = .ok (.int .u8 58) u := hix
        by_cases hy : s.getD k1 0 = 58
        · have HR2 := veil (And.intro HI1.out.1 (And.intro HI1.out.2 (HY.out hx hy)))
          rw [hy] at hin
          have hin : ∀ u, (Instr.index 9 (.string (bs s)) (.int .i64 k1)).run Tryd.prog u = .ok (.int .u8 58) u := hin
          clear hH hat e1 e2 hkn hyes hno HY HNO hx hy hk1 hi1 hi2
          go_wp2_with fail
          go_roundw
          case rel => exact ⟨(k : Int) - 1, k, rfl, by go_num, HR2.out, by first | rfl | trivial⟩
          case measure => simp [intOf] <;> omega
        · have HR2 := veil (And.intro HI1.out.1 (And.intro HI1.out.2 (HNO.out (fun q => hy q.2))))
          have hy' : ¬ ((s.getD k1 0).toNat : Int) = 58 := fun e => hy (UInt8.toNat_inj.1 (by show _ = 58; omega))
          generalize (s.getD k1 0).toNat = y at *
          have b1 : ((y : Int) == 58) = false := by simp [hy']
          clear hH hat e1 e2 hkn hyes hno HY HNO hx hy hk1 hi1 hi2
          go_wp2_with fail
          go_roundw
          case rel => exact ⟨(k : Int) - 1, at2, rfl, by go_num, HR2.out, by first | rfl | trivial⟩
          case measure => simp [intOf] <;> omega
      · have HR2 := veil (And.intro HI1.out.1 (And.intro HI1.out.2 (HNO.out (fun q => hx q.1))))
        have hx' : ¬ ((s.getD k 0).toNat : Int) = 58 := fun e => hx (UInt8.toNat_inj.1 (by show _ = 58; omega))
        generalize (s.getD k 0).toNat = y at *
        have b1 : ((y : Int) == 58) = false := by simp [hx']
        clear hH hat e1 e2 hkn hyes hno HY HNO hx hk1 hi1 hi2
        go_wp2_with fail
        go_roundw
        case rel => exact ⟨(k : Int) - 1, at2, rfl, by go_num, HR2.out, by first | rfl | trivial⟩
        case measure => simp [intOf] <;> omega
    · have hlt' : ¬ (0 : Int) ≤ i2 := hlt
      rw [show (i2 + 1).toNat = 0 by omega, List.drop_zero] at hat
      clear hH hi1 hi2 hlt
      cases hc : cut2 s with
      | none =>
        rw [hc] at hat
        replace hat : at2 = -1 := hat
        subst hat
        have HG0 : Hid (G = getN (sideS s true)) := by
          unfold Hid
          rw [← HGG.out, get_n hc]
        have K1 := veil (rside_any s true w1 (by rw [HN.out]; exact HS.out ()))
        clear hc
        go_wp2_with fail
        refine (K1.out).mono ?_
        rintro e w3 ⟨A, m, c, rfl, hm, hO, hB⟩
        have R := veil (R.out.keep hB)
        have B := veil (B.out.trans (hB.mono B.out.size))
        have HLB0 := veil hB.size
        clear hB K1
        cases ho : sideS s true with
        | none =>
          rw [ho] at HG0
          have HG : Hid (G = none) := HG0
          rw [Option.isSome_none]
          clear ho hm hO
          have T := veil (store_row R.out (by rw [hz2.out]; rfl) (show nil16.length = 16 from rfl))
          have R5 := veil (R.out.setRow (bv nil16).toArray)
          have Q5 := veil (below_setRow B.out w.heap.size (bv nil16).toArray (Nat.le_refl _))
          have HN := veil build_nil
          go_wp2_with (first
            | (refine wpList_build_of rfl _ _ rfl _ rfl (HN.out _) ?_)
            | (refine wpList_store_of rfl _ _ rfl rfl rfl T.out ?_))
          refine bodyPost_ret (results_cell_tmp_row rfl _ _ w.heap.size _ _ _ rfl R5.out Tryd.underlying23 rfl (by kernel_rfl)) rfl ?_
          exact ⟨by rw [HG.out]; rfl, Q5.out⟩
        | some F =>
          rw [ho] at HG0 hm hO
          rw [Option.isSome_some]
          replace hm : m = F.length := hm
          by_cases h8 : m = 8
          · have HG : Hid (G = some F) := by
              unfold Hid
              rw [HG0.out]
              show (if F.length = 8 then some F else none) = _
              rw [if_pos (by omega)]
            subst h8
            have HF8 : Hid (F.length = 8) := hm.symm
            have HFL := veil (sideS_lt8 ho (by omega))
            have OO : Hid (I64.Own w3 w1.heap.size (.slice A 8 c) (ints F)) := hO
            have hza2 : Hid (ZA = (bv (half F 0)).toArray) := hza2.out F
            have HNB : Hid (w.heap.size ≠ w3.heap.size) := by have := R.out.lt; unfold Hid; omega
            have HLB : Hid (w.heap.size ≤ w3.heap.size) := B.out.size
            clear ho hm hO HG0 HLB0
            obtain ⟨h_, ga, rfl, hcell⟩ := iown_cells OO.out (by omega)
            have HC : Hid (∀ j, j < 8 → w3.cell? ⟨ga, j, none⟩ = some (.int .i64 ((F.getD j 0 : Nat) : Int))) := fun j hj => by
              have := hcell j hj
              rwa [ints_at (by rw [HF8.out]; exact hj)] at this
            clear h_ hcell OO
            have hga0 : Hid (ga < w3.heap.size) := block_lt_of_cell (HC.out 0 (by omega))
            have q8 := below_new w3 (.cells ZA 23)
            have r8 := row_new (w := w3) (g := w3.heap.size) (cs := ZA) (t := 23) rfl
            have HC : Hid (∀ j, j < 8 → (w3.alloc (.cells ZA 23)).cell? ⟨ga, j, none⟩ = some (.int .i64 ((F.getD j 0 : Nat) : Int))) := fun j hj => (q8.cell (block_lt_of_cell (HC.out j hj))).trans (HC.out j hj)
            have R := veil (R.out.keep q8)
            have B := veil (B.out.trans (q8.mono B.out.size))
            obtain ⟨wa, hwa⟩ : ∃ wa, w3.alloc (.cells ZA 23) = wa := ⟨_, rfl⟩
            have HWA : Hid (w3.alloc (.cells #[.int .u8 0, .int .u8 0, .int .u8 0, .int .u8 0, .int .u8 0, .int .u8 0, .int .u8 0, .int .u8 0, .int .u8 0, .int .u8 0, .int .u8 0, .int .u8 0, .int .u8 0, .int .u8 0, .int .u8 0, .int .u8 0] 23) = wa) := by rw [← hZA]; exact hwa
            rw [hwa] at q8 r8 HC R B
            rw [hza2.out] at r8
            have hga : Hid (∀ j, j < 8 → ga < wa.heap.size) := fun j hj => block_lt_of_cell (HC.out j hj)
            have R8 := veil r8
            have hsz8 : Hid (w3.heap.size < wa.heap.size) := r8.lt
            have hgw : Hid (ga ≠ w3.heap.size) := by unfold Hid; have := hga0.out; omega
            clear hwa q8 r8
            go_wp2_with fail
            rw [HWA.out]
            clear HWA
            generalize w3.heap.size = gb at *
            have HR0 := veil (And.intro R8.out (And.intro R.out (And.intro B.out HC.out)))
            clear R8 R B HC
            go_loopw [14] (fun i wr => ∃ j : Nat, j ≤ 8 ∧ i = .int .i64 j ∧ Hid (Row wr gb 23 (bv (half F j)).toArray ∧ Row wr w.heap.size 23 Z ∧ Below w.heap.size w wr ∧ (∀ j, j < 8 → wr.cell? ⟨ga, j, none⟩ = some (.int .i64 ((F.getD j 0 : Nat) : Int))))) (fun i _ => 8 - (intOf i).toNat)
            case atStart => exact ⟨0, by omega, rfl, HR0.out⟩
            case round =>
              clear HR0
              obtain ⟨j, hj, rfl, hH⟩ := hrel
              obtain ⟨hr, hr0, hb, hc⟩ := hH.out
              by_cases hlt : j < 8
              · have cx := hc j hlt
                have hgl : F.getD j 0 < 65536 := HFL.out _ (by simp [List.getD, HF8.out, hlt])
                have hl := half_len HF8.out hj
                have c0 : wr.cell? ⟨gb, 2 * j, none⟩ = some (.int .u8 ((half F j).getD (2 * j) 0)) := rng_at (rng_row hr) (by rw [hl]; omega)
                have c1 : wr.cell? ⟨gb, 2 * j + 1, none⟩ = some (.int .u8 ((half F j).getD (2 * j + 1) 0)) := rng_at (rng_row hr) (by rw [hl]; omega)
                have R3 := (hr.set (2 * j) (.int .u8 ((F.getD j 0 / 256 : Nat) : Int))).set (2 * j + 1) (.int .u8 ((F.getD j 0 % 256 : Nat) : Int))
                rw [List.setIfInBounds_toArray, List.setIfInBounds_toArray, bv_set, bv_set, half_set HF8.out hlt] at R3
                have f0 : wr.frozen? ⟨gb, 2 * j, none⟩ = false := hr.frozen _
                have f1 : wr.frozen? ⟨gb, 2 * j + 1, none⟩ = false := hr.frozen _
                have hgb : w.heap.size ≠ gb := HNB.out
                have hgbl : w.heap.size ≤ gb := HLB.out
                have R03 := (hr0.far (p := ⟨gb, 2 * j, none⟩) hgb (.int .u8 ((F.getD j 0 / 256 : Nat) : Int))).far (p := ⟨gb, 2 * j + 1, none⟩) hgb (.int .u8 ((F.getD j 0 % 256 : Nat) : Int))
                have B3 := (hb.setCell (p := ⟨gb, 2 * j, none⟩) hgbl (.int .u8 ((F.getD j 0 / 256 : Nat) : Int))).setCell (p := ⟨gb, 2 * j + 1, none⟩) hgbl (.int .u8 ((F.getD j 0 % 256 : Nat) : Int))
                have hce : ∀ (u : World) (o : Nat) (x : Value) (k : Nat), (u.setCell ⟨gb, o, none⟩ x).cell? ⟨ga, k, none⟩ = u.cell? ⟨ga, k, none⟩ := fun u o x k => World.cell?_of_block (Below.heap_setCell u ⟨gb, o, none⟩ x ga hgw.out)
                have C3 : ∀ k, k < 8 → ((wr.setCell ⟨gb, 2 * j, none⟩ (.int .u8 ((F.getD j 0 / 256 : Nat) : Int))).setCell ⟨gb, 2 * j + 1, none⟩ (.int .u8 ((F.getD j 0 % 256 : Nat) : Int))).cell? ⟨ga, k, none⟩ = some (.int .i64 ((F.getD k 0 : Nat) : Int)) := fun k hk => by rw [hce, hce]; exact hc k hk
                have cx2 : (wr.setCell ⟨gb, 2 * j, none⟩ (.int .u8 ((F.getD j 0 / 256 : Nat) : Int))).cell? ⟨ga, j, none⟩ = some (.int .i64 ((F.getD j 0 : Nat) : Int)) := by rw [hce]; exact cx
                have HR3 := veil (And.intro R3 (And.intro R03 (And.intro B3 C3)))
                generalize (half F j).getD (2 * j) 0 = x0 at *
                generalize (half F j).getD (2 * j + 1) 0 = x1 at *
                generalize hX : F.getD j 0 = x at *
                obtain ⟨y, hy⟩ : ∃ y, x / 256 = y := ⟨_, rfl⟩
                obtain ⟨z, hz⟩ : ∃ z, x % 256 = z := ⟨_, rfl⟩
                have q1 : (x : Int).tdiv 256 = (y : Int) := by rw [← hy]; exact (Int.ofNat_tdiv x 256).symm
                have q2 : (x : Int).tmod 256 = (z : Int) := by rw [← hz]; exact (Int.ofNat_tmod x 256).symm
                rw [hy] at HR3 cx2
                rw [hz] at HR3
                obtain ⟨k, hk⟩ : ∃ k, 2 * j = k := ⟨_, rfl⟩
                rw [hk] at c0 f0 HR3 cx2 c1 f1
                obtain ⟨k2, hk2⟩ : ∃ k2, k + 1 = k2 := ⟨_, rfl⟩
                rw [hk2] at c1 f1 HR3
                have y1 : (y : Int) ≤ 255 := by omega
                have z1 : (z : Int) ≤ 255 := by omega
                have u1 : IntKind.u8.wrap (y : Int) = (y : Int) := by simp [IntKind.wrap, IntKind.signed, IntKind.bits]; omega
                have u2 : IntKind.u8.wrap (z : Int) = (z : Int) := by simp [IntKind.wrap, IntKind.signed, IntKind.bits]; omega
                have s1 : IntKind.i64.wrap (2 * (j : Int)) = (k : Int) := by rw [IntWalk.i64_in _ (by omega)]; omega
                have s2 : IntKind.i64.wrap ((k : Int) + 1) = (k2 : Int) := by rw [IntWalk.i64_in _ (by omega)]; omega
                have p1 : ¬ ((k : Int) < 0) := by omega
                have p2 : (k : Int) < 16 := by omega
                have p3 : (k : Int).toNat = k := by omega
                have p4 : ¬ ((k2 : Int) < 0) := by omega
                have p5 : (k2 : Int) < 16 := by omega
                have p6 : (k2 : Int).toNat = k2 := by omega
                have p7 : ¬ ((j : Int) < 0) := by omega
                have p8 : (j : Int) < 8 := by omega
                have p9 : (j : Int).toNat = j := by omega
                have cy : (wr.setCell ⟨gb, k, none⟩ (.int .u8 (y : Int))).cell? ⟨gb, k2, none⟩ = some (.int .u8 x1) := by
                  rw [World.cell?_setCell_other _ _ _ _ (by intro e; injection e with _ e _; omega)]
                  exact c1
                have fy : (wr.setCell ⟨gb, k, none⟩ (.int .u8 (y : Int))).frozen? ⟨gb, k2, none⟩ = false := (hr.set k _).frozen _
                clear hH hr hr0 hb hc hl R3 R03 B3 C3 hce hX hy hz hk hk2 hgb hgbl hgl
                go_wp2_with fail
                go_roundw
                case rel => exact ⟨j + 1, by omega, by go_num, HR3.out⟩
                case measure => simp [intOf]; omega
              · obtain rfl : j = 8 := by omega
                rw [half_end HF8.out] at hr
                have hl : (bys F).length = 16 := by rw [bys_len, HF8.out]
                have L := veil (load_rng (rng_row hr) hl)
                have T := veil (store_row hr0 (by rw [hz2.out]; rfl) hl)
                have R5 := veil (hr0.setRow (bv (bys F)).toArray)
                have Q5 := veil (below_setRow hb w.heap.size (bv (bys F)).toArray (Nat.le_refl _))
                have hsz := sizeOk hl
                have HG2 := veil (show gres G = .tuple #[av (bys F), .int .i64 0] by rw [HG.out]; rfl)
                clear hH hr hr0 hb hc hl
                generalize bys F = Y at *
                go_wp2_with (first
                  | (refine wpList_load_of rfl _ rfl rfl L.out ?_)
                  | (refine wpList_store_of rfl _ _ rfl rfl rfl T.out ?_))
                refine bodyPost_ret (results_cell_tmp_row rfl _ _ w.heap.size _ _ _ rfl R5.out Tryd.underlying23 rfl (by simpa using hsz)) rfl ?_
                exact ⟨by rw [HG2.out]; rfl, Q5.out⟩
          · have HG : Hid (G = none) := by
              unfold Hid
              rw [HG0.out]
              show (if F.length = 8 then some F else none) = _
              rw [if_neg (by omega)]
            have h8' : ¬ (m : Int) = 8 := by omega
            clear ho hm hO HG0
            have T := veil (store_row R.out (by rw [hz2.out]; rfl) (show nil16.length = 16 from rfl))
            have R5 := veil (R.out.setRow (bv nil16).toArray)
            have Q5 := veil (below_setRow B.out w.heap.size (bv nil16).toArray (Nat.le_refl _))
            have HN := veil build_nil
            go_wp2_with (first
              | (refine wpList_build_of rfl _ _ rfl _ rfl (HN.out _) ?_)
              | (refine wpList_store_of rfl _ _ rfl rfl rfl T.out ?_))
            refine bodyPost_ret (results_cell_tmp_row rfl _ _ w.heap.size _ _ _ rfl R5.out Tryd.underlying23 rfl (by kernel_rfl)) rfl ?_
            exact ⟨by rw [HG.out]; rfl, Q5.out⟩
      | some p =>
        obtain ⟨a, b⟩ := p
        rw [hc] at hat
        have hsp := (index2_yes hc).2
        replace hat : at2 = (a.length : Int) := by rw [hat]; simp [atOf]
        subst hat
        have hla : a.length + 2 + b.length = n := by rw [← HN.out, hsp]; simp; omega
        have sl1 := slice_str s (k := a.length) (by rw [HN.out]; omega) (a := a) (by rw [hsp]; simp)
        have sl2 := slice_rest s (k := a.length + 2) (by rw [HN.out]; omega) (a := b) (by rw [hsp]; simp [List.drop_append])
        have HG0 : Hid (G = getG (sideS a false) (sideS b true)) := by
          unfold Hid
          rw [← HGG.out, get_g hc]
        have K1 := veil (rside_any a false w1 (by have := HS.out (); omega))
        have K2 := veil (fun v => rside_any b true v (by have := HS.out (); omega))
        have HAB : Hid (∀ _ : Unit, a.length ≤ 1000 ∧ b.length ≤ 1000) := fun _ => by have := HS.out (); omega
        obtain ⟨la, hla2⟩ : ∃ la, a.length = la := ⟨_, rfl⟩
        rw [hla2] at sl1 sl2 hla ⊢
        obtain ⟨lb, hlb⟩ : ∃ lb, la + 2 = lb := ⟨_, rfl⟩
        rw [hlb] at sl2
        have s1 : IntKind.i64.wrap ((la : Int) + 2) = (lb : Int) := by rw [IntWalk.i64_in _ (by have := HS.out (); omega)]; omega
        have a0 : ¬ (la : Int) < 0 := by omega
        clear hc hsp hla hla2 hlb
        go_wp2_with fail
        refine (K1.out).mono ?_
        rintro e w3 ⟨A, m, c, rfl, hm, hO, hB⟩
        have R := veil (R.out.keep hB)
        have B := veil (B.out.trans (hB.mono B.out.size))
        clear hB K1
        have HX1 := veil (And.intro hm hO)
        clear hm hO
        go_wp2_with fail
        refine (K2.out _).mono ?_
        rintro e w4 ⟨A2, m2, c2, rfl, hm2, hO2, hB⟩
        have R := veil (R.out.keep hB)
        have B := veil (B.out.trans (hB.mono B.out.size))
        clear K2 sl1 sl2 s1 a0
        obtain ⟨hm, hO⟩ := HX1.out
        replace hO := I64.Own.keep hO hB
        clear hB HX1
        cases ho : sideS a false with
        | none =>
          rw [ho] at HG0
          have HG : Hid (G = none) := HG0
          rw [Option.isSome_none]
          clear ho hm hO hm2 hO2
          have T := veil (store_row R.out (by rw [hz2.out]; rfl) (show nil16.length = 16 from rfl))
          have R5 := veil (R.out.setRow (bv nil16).toArray)
          have Q5 := veil (below_setRow B.out w.heap.size (bv nil16).toArray (Nat.le_refl _))
          have HN := veil build_nil
          go_wp2_with (first
            | (refine wpList_build_of rfl _ _ rfl _ rfl (HN.out _) ?_)
            | (refine wpList_store_of rfl _ _ rfl rfl rfl T.out ?_))
          refine bodyPost_ret (results_cell_tmp_row rfl _ _ w.heap.size _ _ _ rfl R5.out Tryd.underlying23 rfl (by kernel_rfl)) rfl ?_
          exact ⟨by rw [HG.out]; rfl, Q5.out⟩
        | some l =>
          rw [ho] at HG0 hm hO
          rw [Option.isSome_some]
          cases ho2 : sideS b true with
          | none =>
            rw [ho2] at HG0
            have HG : Hid (G = none) := HG0
            rw [Option.isSome_none]
            clear ho hm hO hm2 hO2 ho2
            have T := veil (store_row R.out (by rw [hz2.out]; rfl) (show nil16.length = 16 from rfl))
            have R5 := veil (R.out.setRow (bv nil16).toArray)
            have Q5 := veil (below_setRow B.out w.heap.size (bv nil16).toArray (Nat.le_refl _))
            have HN := veil build_nil
            go_wp2_with (first
              | (refine wpList_build_of rfl _ _ rfl _ rfl (HN.out _) ?_)
              | (refine wpList_store_of rfl _ _ rfl rfl rfl T.out ?_))
            refine bodyPost_ret (results_cell_tmp_row rfl _ _ w.heap.size _ _ _ rfl R5.out Tryd.underlying23 rfl (by kernel_rfl)) rfl ?_
            exact ⟨by rw [HG.out]; rfl, Q5.out⟩
          | some l2 =>
            rw [ho2] at HG0 hm2 hO2
            rw [Option.isSome_some]
            replace hm : m = l.length := hm
            replace hm2 : m2 = l2.length := hm2
            replace hO : I64.Own w4 w1.heap.size (.slice A m c) (ints l) := hO
            replace hO2 : I64.Own w4 w3.heap.size (.slice A2 m2 c2) (ints l2) := hO2
            have HG0 : Hid (G = if l.length + l2.length ≤ 7 then some (fill l l2) else none) := HG0
            by_cases h7 : m + m2 ≤ 7
            · have HG : Hid (G = some (fill l l2)) := by unfold Hid; rw [HG0.out, if_pos (by omega)]
              have HF8 : Hid ((fill l l2).length = 8) := fill_len (by omega)
              have HFL := veil (fill_lt (sideS_lt8 ho (by omega)) (sideS_lt8 ho2 (by omega)))
              have h7' : ¬ (7 : Int) < (m : Int) + (m2 : Int) := by omega
              obtain ⟨v5, w5, H5, hO5, hgb5, _⟩ := I64.run_append_slc w4 w4.heap.size 47 (.slice none 0 0) (.slice A m c) [] (ints l) (I64.own_nil _ _) hO.slc (by rw [ints_len]; simp; omega) (Nat.le_refl _)
              rw [List.nil_append] at hO5
              obtain ⟨A5, c5, e5⟩ := own_ints hO5
              rw [ints_len, ← hm] at e5
              subst e5
              have ob5 := I64.own_below (W := w4) (I64.own_nil w4 w4.heap.size) hgb5 (Below.refl _ _) (Nat.le_refl _)
              have HA5 := veil H5
              have HX5 := veil (And.intro hO5 ob5)
              have S2 := veil hO2.slc
              have HML : Hid (l.length = m ∧ l2.length = m2) := ⟨hm.symm, hm2.symm⟩
              have hZm : m ≤ 7 := by omega
              have hZm2 : m2 ≤ 7 := by omega
              clear ho ho2 hm hm2 hO hO2 HG0 H5 hO5 hgb5 ob5
              go_wp2_with (first
                | (at_builtin
                   refine Ops.wpList_append_w rfl (.tmp 80) (.tmp 81) rfl rfl rfl HA5.out ?_))
              clear HA5
              go_loopw [6] (fun v wr => ∃ (A6 : Option Addr) (k c6 z : Nat), v = .slice A6 k c6 ∧ k = m + z ∧ k + m2 ≤ 8 ∧ Hid (I64.Own wr w4.heap.size (.slice A6 k c6) (ints (l ++ List.replicate z 0)) ∧ Below w4.heap.size w4 wr)) (fun v _ => padMeas v)
              case atStart => exact ⟨A5, m, c5, 0, rfl, by omega, by omega, by unfold Hid; simpa using HX5.out⟩
              case round =>
                clear HX5
                obtain ⟨A6, k, c6, z, rfl, hk, hk8, hH⟩ := hrel
                obtain ⟨hO, hB⟩ := hH.out
                have hlk : (ints (l ++ List.replicate z 0)).length = k := by rw [ints_len]; simp [HML.out.1]; omega
                have wk : IntKind.i64.wrap ((k : Int) + (m2 : Int)) = (k : Int) + (m2 : Int) := by rw [IntWalk.i64_in _ (by omega)]
                by_cases hlt : k + m2 < 8
                · have q2 := below_new wr (.cells #[.int .i64 0] 3)
                  have r2 := row_new (w := wr) (g := wr.heap.size) (cs := #[.int .i64 0]) (t := 3) rfl
                  have hsz2 : (wr.alloc (.cells #[.int .i64 0] 3)).heap.size = wr.heap.size + 1 := by simp
                  obtain ⟨v7, w7, H7, hO7, hgb7, _⟩ := I64.run_append_slc (wr.alloc (.cells #[.int .i64 0] 3)) w4.heap.size 47 (.slice A6 k c6) (.slice (some ⟨wr.heap.size, 0, none⟩) 1 1) (ints (l ++ List.replicate z 0)) [0] (hO.keep q2) (.inr ⟨_, 1, rfl, I64.rd_lit r2 rfl, by simp⟩) (by rw [hlk]; simp; omega) (by rw [hsz2]; have := hB.size; omega)
                  have e7 : ints (l ++ List.replicate z 0) ++ [0] = ints (l ++ List.replicate (z + 1) 0) := by rw [List.replicate_succ', ← List.append_assoc, ints_app (l ++ List.replicate z 0)]; rfl
                  rw [e7] at hO7
                  obtain ⟨A7, c7, e8⟩ := own_ints hO7
                  rw [← e7, List.length_append, hlk, List.length_singleton] at e8
                  subst e8
                  have ob7 := I64.own_below (W := w4) (hO.keep q2) hgb7 (hB.trans (q2.mono hB.size)) (by rw [hsz2]; have := hB.size; omega)
                  have HA7 := veil H7
                  have HR7 := veil (And.intro hO7 ob7)
                  have hlt' : (k : Int) + (m2 : Int) < 8 := by omega
                  have HKZ := veil hk
                  clear hH hO hB hlk q2 r2 hsz2 H7 hO7 hgb7 ob7 e7 h7' hk
                  go_wp2_with (first
                    | (at_builtin
                       refine Ops.wpList_append_w rfl (.tmp 89) (.tmp 90) rfl rfl rfl HA7.out ?_))
                  go_roundw
                  case rel => exact ⟨A7, k + 1, c7, z + 1, rfl, by have := HKZ.out; omega, by omega, HR7.out⟩
                  case measure => simp [padMeas]; omega
                · have hlt' : ¬ (k : Int) + (m2 : Int) < 8 := by omega
                  obtain ⟨v7, w7, H7, hO7, hgb7, _⟩ := I64.run_append_slc wr w4.heap.size 47 (.slice A6 k c6) (.slice A2 m2 c2) (ints (l ++ List.replicate z 0)) (ints l2) hO (S2.out.keep hB) (by rw [hlk, ints_len, HML.out.2]; omega) hB.size
                  have e7 : ints (l ++ List.replicate z 0) ++ ints l2 = ints (fill l l2) := by
                    rw [← ints_app, fill, show 8 - (l.length + l2.length) = z by rw [HML.out.1, HML.out.2]; omega]
                  rw [e7] at hO7
                  obtain ⟨A7, c7, e8⟩ := own_ints hO7
                  rw [ints_len, HF8.out] at e8
                  subst e8
                  have ob7 := I64.own_below (W := w4) hO hgb7 hB hB.size
                  have HA7 := veil H7
                  have R := veil (R.out.keep ob7)
                  have B := veil (B.out.trans (ob7.mono B.out.size))
                  have OO := veil hO7
                  have HNB : Hid (w.heap.size ≠ w7.heap.size) := by have := R.out.lt; unfold Hid; omega
                  have HLB : Hid (w.heap.size ≤ w7.heap.size) := B.out.size
                  have hza2 : Hid (ZA = (bv (half (fill l l2) 0)).toArray) := hza2.out (fill l l2)
                  clear hH hO hB hlk H7 hO7 hgb7 ob7 e7 h7' S2 hk
                  generalize fill l l2 = F at *
                  go_wp2_with (first
                    | (at_builtin
                       refine Ops.wpList_append_w rfl (.tmp 92) (.tmp 93) rfl rfl rfl HA7.out ?_))
                  obtain ⟨h_, ga, rfl, hcell⟩ := iown_cells OO.out (by omega)
                  have HC : Hid (∀ j, j < 8 → w7.cell? ⟨ga, j, none⟩ = some (.int .i64 ((F.getD j 0 : Nat) : Int))) := fun j hj => by
                    have := hcell j hj
                    rwa [ints_at (by rw [HF8.out]; exact hj)] at this
                  clear h_ hcell OO
                  have hga0 : Hid (ga < w7.heap.size) := block_lt_of_cell (HC.out 0 (by omega))
                  have q8 := below_new w7 (.cells ZA 23)
                  have r8 := row_new (w := w7) (g := w7.heap.size) (cs := ZA) (t := 23) rfl
                  have HC : Hid (∀ j, j < 8 → (w7.alloc (.cells ZA 23)).cell? ⟨ga, j, none⟩ = some (.int .i64 ((F.getD j 0 : Nat) : Int))) := fun j hj => (q8.cell (block_lt_of_cell (HC.out j hj))).trans (HC.out j hj)
                  have R := veil (R.out.keep q8)
                  have B := veil (B.out.trans (q8.mono B.out.size))
                  obtain ⟨wa, hwa⟩ : ∃ wa, w7.alloc (.cells ZA 23) = wa := ⟨_, rfl⟩
                  have HWA : Hid (w7.alloc (.cells #[.int .u8 0, .int .u8 0, .int .u8 0, .int .u8 0, .int .u8 0, .int .u8 0, .int .u8 0, .int .u8 0, .int .u8 0, .int .u8 0, .int .u8 0, .int .u8 0, .int .u8 0, .int .u8 0, .int .u8 0, .int .u8 0] 23) = wa) := by rw [← hZA]; exact hwa
                  rw [hwa] at q8 r8 HC R B
                  rw [hza2.out] at r8
                  have hga : Hid (∀ j, j < 8 → ga < wa.heap.size) := fun j hj => block_lt_of_cell (HC.out j hj)
                  have R8 := veil r8
                  have hsz8 : Hid (w7.heap.size < wa.heap.size) := r8.lt
                  have hgw : Hid (ga ≠ w7.heap.size) := by unfold Hid; have := hga0.out; omega
                  clear hwa q8 r8
                  go_wp2_with fail
                  rw [HWA.out]
                  clear HWA
                  generalize w7.heap.size = gb at *
                  have HR0 := veil (And.intro R8.out (And.intro R.out (And.intro B.out HC.out)))
                  clear R8 R B HC
                  go_loopw [14] (fun i wr => ∃ j : Nat, j ≤ 8 ∧ i = .int .i64 j ∧ Hid (Row wr gb 23 (bv (half F j)).toArray ∧ Row wr w.heap.size 23 Z ∧ Below w.heap.size w wr ∧ (∀ j, j < 8 → wr.cell? ⟨ga, j, none⟩ = some (.int .i64 ((F.getD j 0 : Nat) : Int))))) (fun i _ => 8 - (intOf i).toNat)
                  case atStart => exact ⟨0, by omega, rfl, HR0.out⟩
                  case round =>
                    clear HR0
                    obtain ⟨j, hj, rfl, hH⟩ := hrel
                    obtain ⟨hr, hr0, hb, hc⟩ := hH.out
                    by_cases hlt : j < 8
                    · have cx := hc j hlt
                      have hgl : F.getD j 0 < 65536 := HFL.out _ (by simp [List.getD, HF8.out, hlt])
                      have hl := half_len HF8.out hj
                      have c0 : wr.cell? ⟨gb, 2 * j, none⟩ = some (.int .u8 ((half F j).getD (2 * j) 0)) := rng_at (rng_row hr) (by rw [hl]; omega)
                      have c1 : wr.cell? ⟨gb, 2 * j + 1, none⟩ = some (.int .u8 ((half F j).getD (2 * j + 1) 0)) := rng_at (rng_row hr) (by rw [hl]; omega)
                      have R3 := (hr.set (2 * j) (.int .u8 ((F.getD j 0 / 256 : Nat) : Int))).set (2 * j + 1) (.int .u8 ((F.getD j 0 % 256 : Nat) : Int))
                      rw [List.setIfInBounds_toArray, List.setIfInBounds_toArray, bv_set, bv_set, half_set HF8.out hlt] at R3
                      have f0 : wr.frozen? ⟨gb, 2 * j, none⟩ = false := hr.frozen _
                      have f1 : wr.frozen? ⟨gb, 2 * j + 1, none⟩ = false := hr.frozen _
                      have hgb : w.heap.size ≠ gb := HNB.out
                      have hgbl : w.heap.size ≤ gb := HLB.out
                      have R03 := (hr0.far (p := ⟨gb, 2 * j, none⟩) hgb (.int .u8 ((F.getD j 0 / 256 : Nat) : Int))).far (p := ⟨gb, 2 * j + 1, none⟩) hgb (.int .u8 ((F.getD j 0 % 256 : Nat) : Int))
                      have B3 := (hb.setCell (p := ⟨gb, 2 * j, none⟩) hgbl (.int .u8 ((F.getD j 0 / 256 : Nat) : Int))).setCell (p := ⟨gb, 2 * j + 1, none⟩) hgbl (.int .u8 ((F.getD j 0 % 256 : Nat) : Int))
                      have hce : ∀ (u : World) (o : Nat) (x : Value) (k : Nat), (u.setCell ⟨gb, o, none⟩ x).cell? ⟨ga, k, none⟩ = u.cell? ⟨ga, k, none⟩ := fun u o x k => World.cell?_of_block (Below.heap_setCell u ⟨gb, o, none⟩ x ga hgw.out)
                      have C3 : ∀ k, k < 8 → ((wr.setCell ⟨gb, 2 * j, none⟩ (.int .u8 ((F.getD j 0 / 256 : Nat) : Int))).setCell ⟨gb, 2 * j + 1, none⟩ (.int .u8 ((F.getD j 0 % 256 : Nat) : Int))).cell? ⟨ga, k, none⟩ = some (.int .i64 ((F.getD k 0 : Nat) : Int)) := fun k hk => by rw [hce, hce]; exact hc k hk
                      have cx2 : (wr.setCell ⟨gb, 2 * j, none⟩ (.int .u8 ((F.getD j 0 / 256 : Nat) : Int))).cell? ⟨ga, j, none⟩ = some (.int .i64 ((F.getD j 0 : Nat) : Int)) := by rw [hce]; exact cx
                      have HR3 := veil (And.intro R3 (And.intro R03 (And.intro B3 C3)))
                      generalize (half F j).getD (2 * j) 0 = x0 at *
                      generalize (half F j).getD (2 * j + 1) 0 = x1 at *
                      generalize hX : F.getD j 0 = x at *
                      obtain ⟨y, hy⟩ : ∃ y, x / 256 = y := ⟨_, rfl⟩
                      obtain ⟨z, hz⟩ : ∃ z, x % 256 = z := ⟨_, rfl⟩
                      have q1 : (x : Int).tdiv 256 = (y : Int) := by rw [← hy]; exact (Int.ofNat_tdiv x 256).symm
                      have q2 : (x : Int).tmod 256 = (z : Int) := by rw [← hz]; exact (Int.ofNat_tmod x 256).symm
                      rw [hy] at HR3 cx2
                      rw [hz] at HR3
                      obtain ⟨k, hk⟩ : ∃ k, 2 * j = k := ⟨_, rfl⟩
                      rw [hk] at c0 f0 HR3 cx2 c1 f1
                      obtain ⟨k2, hk2⟩ : ∃ k2, k + 1 = k2 := ⟨_, rfl⟩
                      rw [hk2] at c1 f1 HR3
                      have y1 : (y : Int) ≤ 255 := by omega
                      have z1 : (z : Int) ≤ 255 := by omega
                      have u1 : IntKind.u8.wrap (y : Int) = (y : Int) := by simp [IntKind.wrap, IntKind.signed, IntKind.bits]; omega
                      have u2 : IntKind.u8.wrap (z : Int) = (z : Int) := by simp [IntKind.wrap, IntKind.signed, IntKind.bits]; omega
                      have s1 : IntKind.i64.wrap (2 * (j : Int)) = (k : Int) := by rw [IntWalk.i64_in _ (by omega)]; omega
                      have s2 : IntKind.i64.wrap ((k : Int) + 1) = (k2 : Int) := by rw [IntWalk.i64_in _ (by omega)]; omega
                      have p1 : ¬ ((k : Int) < 0) := by omega
                      have p2 : (k : Int) < 16 := by omega
                      have p3 : (k : Int).toNat = k := by omega
                      have p4 : ¬ ((k2 : Int) < 0) := by omega
                      have p5 : (k2 : Int) < 16 := by omega
                      have p6 : (k2 : Int).toNat = k2 := by omega
                      have p7 : ¬ ((j : Int) < 0) := by omega
                      have p8 : (j : Int) < 8 := by omega
                      have p9 : (j : Int).toNat = j := by omega
                      have cy : (wr.setCell ⟨gb, k, none⟩ (.int .u8 (y : Int))).cell? ⟨gb, k2, none⟩ = some (.int .u8 x1) := by
                        rw [World.cell?_setCell_other _ _ _ _ (by intro e; injection e with _ e _; omega)]
                        exact c1
                      have fy : (wr.setCell ⟨gb, k, none⟩ (.int .u8 (y : Int))).frozen? ⟨gb, k2, none⟩ = false := (hr.set k _).frozen _
                      clear hH hr hr0 hb hc hl R3 R03 B3 C3 hce hX hy hz hk hk2 hgb hgbl hgl
                      go_wp2_with fail
                      go_roundw
                      case rel => exact ⟨j + 1, by omega, by go_num, HR3.out⟩
                      case measure => simp [intOf]; omega
                    · obtain rfl : j = 8 := by omega
                      rw [half_end HF8.out] at hr
                      have hl : (bys F).length = 16 := by rw [bys_len, HF8.out]
                      have L := veil (load_rng (rng_row hr) hl)
                      have T := veil (store_row hr0 (by rw [hz2.out]; rfl) hl)
                      have R5 := veil (hr0.setRow (bv (bys F)).toArray)
                      have Q5 := veil (below_setRow hb w.heap.size (bv (bys F)).toArray (Nat.le_refl _))
                      have hsz := sizeOk hl
                      have HG2 := veil (show gres G = .tuple #[av (bys F), .int .i64 0] by rw [HG.out]; rfl)
                      clear hH hr hr0 hb hc hl
                      generalize bys F = Y at *
                      go_wp2_with (first
                        | (refine wpList_load_of rfl _ rfl rfl L.out ?_)
                        | (refine wpList_store_of rfl _ _ rfl rfl rfl T.out ?_))
                      refine bodyPost_ret (results_cell_tmp_row rfl _ _ w.heap.size _ _ _ rfl R5.out Tryd.underlying23 rfl (by simpa using hsz)) rfl ?_
                      exact ⟨by rw [HG2.out]; rfl, Q5.out⟩
            · have HG : Hid (G = none) := by unfold Hid; rw [HG0.out, if_neg (by omega)]
              have h7' : (7 : Int) < (m : Int) + (m2 : Int) := by omega
              have hb1 := sideS_most ho
              have hb2 := sideS_most ho2
              have hab := HAB.out ()
              have wk : IntKind.i64.wrap ((m : Int) + (m2 : Int)) = (m : Int) + (m2 : Int) := by rw [IntWalk.i64_in _ (by omega)]
              have mb1 : (m : Int) ≤ 1002 := by omega
              have mb2 : (m2 : Int) ≤ 1002 := by omega
              clear hb1 hb2 hab
              clear ho hm hO hm2 hO2 ho2 HG0
              have T := veil (store_row R.out (by rw [hz2.out]; rfl) (show nil16.length = 16 from rfl))
              have R5 := veil (R.out.setRow (bv nil16).toArray)
              have Q5 := veil (below_setRow B.out w.heap.size (bv nil16).toArray (Nat.le_refl _))
              have HN := veil build_nil
              go_wp2_with (first
                | (refine wpList_build_of rfl _ _ rfl _ rfl (HN.out _) ?_)
                | (refine wpList_store_of rfl _ _ rfl rfl rfl T.out ?_))
              refine bodyPost_ret (results_cell_tmp_row rfl _ _ w.heap.size _ _ _ rfl R5.out Tryd.underlying23 rfl (by kernel_rfl)) rfl ?_
              exact ⟨by rw [HG.out]; rfl, Q5.out⟩
end Go.Proofs.YtfaaogidbpfelaaDoor.Tx
