/-
  OctetsBack: numbers that are put one behind the other are cut again, in order, as far as they fit; then the bytes behind them are left: the law returns true for every input, and its arguments read as before.
  Conditions: none.
-/
import Derived.Test.YtddmjenhpbbocaaOpen
import Derived.Deep.SlicePairs
namespace Go.Proofs.Ytddmjenhpbbocaa.octetsBack
open Go.ChangeShapes Go.WideShapes Go.ChangeAt Go.RowKit

/-- a slice of numbers, each with its width -/
def Nums (w : World) (A : Option Addr) (ps : List (Int × Int)) : Prop :=
  ∀ i, i < ps.length → ∃ b o, A = some ⟨b, o, none⟩ ∧ w.cell? ⟨b, o + i * 2, none⟩ = some (.int .u64 (ps.getD i (0, 0)).1) ∧ w.cell? ⟨b, o + i * 2 + 1, none⟩ = some (.int .u8 (ps.getD i (0, 0)).2)
def Fine (ps : List (Int × Int)) : Prop := ∀ p ∈ ps, (0 ≤ p.1 ∧ p.1 < 256 ^ 8) ∧ 0 ≤ p.2 ∧ p.2 ≤ 255
def wid (m : Int) : Nat := (1 + m % 8).toNat
/-- all of them as bytes -/
def all (ps : List (Int × Int)) : List Int := ps.flatMap fun p => be p.1 (wid p.2)

theorem wid_eq (m : Int) : 1 + m % 8 = (wid m : Int) := by unfold wid; omega
theorem wid_le (m : Int) : 1 ≤ wid m ∧ wid m ≤ 8 := by unfold wid; omega
theorem all_byt (ps : List (Int × Int)) : Byt (all ps) := by
  intro z hz
  obtain ⟨p, _, hp⟩ := List.mem_flatMap.1 hz
  exact be_byt _ _ z hp
theorem all_length_le : ∀ ps : List (Int × Int), (all ps).length ≤ 8 * ps.length
  | [] => by simp [all]
  | p :: ps => by
    have := all_length_le ps
    have h := wid_le p.2
    simp only [all, List.flatMap_cons, List.length_append, be_length, List.length_cons] at this ⊢
    omega
theorem take_next2 (ps : List (Int × Int)) (j : Nat) (h : j < ps.length) : ps.take (j + 1) = ps.take j ++ [ps.getD j (0, 0)] := by
  rw [List.take_succ_eq_append_getElem h]
  simp [List.getD, h]
theorem all_next (ps : List (Int × Int)) (j : Nat) (h : j < ps.length) : all (ps.take (j + 1)) = all (ps.take j) ++ be (ps.getD j (0, 0)).1 (wid (ps.getD j (0, 0)).2) := by
  rw [take_next2 ps j h]
  simp [all]
theorem fine_at {ps : List (Int × Int)} (h : Fine ps) (j : Nat) (hj : j < ps.length) : (0 ≤ (ps.getD j (0, 0)).1 ∧ (ps.getD j (0, 0)).1 < 256 ^ 8) ∧ 0 ≤ (ps.getD j (0, 0)).2 ∧ (ps.getD j (0, 0)).2 ≤ 255 := by
  have e : ps.getD j (0, 0) = ps[j] := by simp [List.getD, hj]
  rw [e]
  exact h _ (List.getElem_mem hj)

theorem Nums.keep {w w' : World} {A : Option Addr} {ps : List (Int × Int)} (h : Nums w A ps) (hb : Below w.heap.size w w') : Nums w' A ps := by
  intro i hi
  obtain ⟨b, o, e, h0, h1⟩ := h i hi
  exact ⟨b, o, e, by rw [hb.cell (block_lt_of_cell h0), h0], by rw [hb.cell (block_lt_of_cell h1), h1]⟩

/-- a number that was put is cut again, as far as it fits -/
theorem cut_back {w : World} {g b o c : Nat} {rest : List Int} (x kI : Int) (k : Nat) (h : Cut w g b o c (be x k ++ rest)) (hk : kI = k) (h1 : 1 ≤ k) (h8 : k ≤ 8) (hx : 0 ≤ x) :
    Calls Try.prog 23 #[.pointer (some ⟨g, 0, none⟩), .int .i64 kI] w (After (Cut · g b (step o c k) (c - k) rest) g w (.int .u64 (x % 256 ^ k))) := by
  subst hk
  have hn := h.num_ k h1 h8 (by simp [be_length])
  rw [List.take_left' (be_length x k), List.drop_left' (be_length x k), num_be x hx k] at hn
  exact hn
theorem all_drop (ps : List (Int × Int)) (j : Nat) (h : j < ps.length) : all (ps.drop j) = be (ps.getD j (0, 0)).1 (wid (ps.getD j (0, 0)).2) ++ all (ps.drop (j + 1)) := by
  unfold all
  rw [List.drop_eq_getElem_cons h, List.flatMap_cons]
  simp only [List.getD, List.getElem?_eq_getElem h, Option.getD_some]
theorem slc_rd {w : World} {C : Option Addr} {m c : Nat} {zs : List Int} (h : Slc w (.slice C m c) zs) : Rd w C zs ∧ zs.length = m := by
  obtain ⟨A, d, e, hr, _⟩ := h.slice
  injection e with e1 e2 e3
  subst e1
  exact ⟨hr, e2.symm⟩

set_option maxHeartbeats 4000000 in
theorem walk (A B : Option Addr) (ln lc bn bc : Nat) (ps : List (Int × Int)) (zs : List Int) (w : World) (hl : ps.length = ln) (hz : zs.length = bn) (hln : ln ≤ 100) (hbn : bn ≤ 1000)
    (hN : Nums w A ps) (hF : Fine ps) (hR : Slc w (.slice B bn bc) zs) (hY : Byt zs) :
    Calls Try.prog 6 #[.slice A ln lc, .slice B bn bc] w fun e w' => e = .returned (.bool true) ∧ Below w.heap.size w w' := by
  have HL := veil hl
  have HZ := veil hz
  have HN := veil hN
  have HF := veil hF
  have HR := veil hR
  have HY := veil hY
  clear hl hz hN hF hR hY
  go_enter Try.func6, Try.ntmps6
  go_wp2_with fail
  go_loopw [5, 6] (fun b i wr => ∃ (j m c : Nat) (C : Option Addr), j ≤ ln ∧ i = .int .i64 j ∧ b = .slice C m c ∧ Hid (Slc wr (.slice C m c) (all (ps.take j)) ∧ (all (ps.take j)).length = m) ∧ Below w.heap.size w wr) (fun _ i _ => ln - (intOf i).toNat)
  case atStart => exact ⟨0, 0, 0, none, Nat.zero_le _, rfl, rfl, ⟨.inl ⟨rfl, rfl⟩, rfl⟩, Below.refl _ _⟩
  case round =>
    obtain ⟨j, m, c, C, hj, rfl, rfl, hS, hb⟩ := hrel
    by_cases hlt : j < ln
    · have hjl : j < ps.length := by rw [HL.out]; exact hlt
      obtain ⟨d, o, rfl, h0, h1⟩ := (HN.out.keep hb) j hjl
      have hf := fine_at HF.out j hjl
      have E := veil (all_next ps j hjl)
      generalize ps.getD j (0, 0) = p at h0 h1 hf E
      obtain ⟨x, y⟩ := p
      simp only at h0 h1 hf E
      obtain ⟨hx, hy0, hy1⟩ := hf
      have HX := veil hx
      have hW := wid_le y
      have HW := veil (wid_eq y)
      clear hx
      go_wp2_with fail
      have hrd := slc_rd hS.out.1
      have hal := all_length_le (ps.take j)
      have hpl : (ps.take j).length ≤ 100 := by simp; omega
      have hm8 : m ≤ 800 := by have := hrd.2; omega
      refine (put_int C m c (all (ps.take j)) x _ (wid y) _ hrd.2 (by omega) hrd.1 HW.out hW.1 hW.2).mono ?_
      rintro e w1 ⟨rfl, hw1⟩
      have r1 : Row w1 wr.heap.size 5 (bv (all (ps.take j) ++ be x (wid y))).toArray := by subst hw1; exact row_new rfl
      have b1 : Below w.heap.size w w1 := by subst hw1; exact hb.alloc hb.size _
      have hq : ((m : Int) + (wid y : Int) != (m : Int) + (1 + y % 8)) = false := by have := HW.out; simp; omega
      have hS1 : Hid (Slc w1 (.slice (some ⟨wr.heap.size, 0, none⟩) (m + wid y) (m + wid y)) (all (ps.take (j + 1))) ∧ (all (ps.take (j + 1))).length = m + wid y) := by
        have hlen : (all (ps.take j) ++ be x (wid y)).length = m + wid y := by rw [List.length_append, be_length, hrd.2]
        rw [E.out]
        exact ⟨.inr ⟨_, _, by rw [hlen], rd_row r1 (fun i hi => by rw [Nat.zero_add]; exact bv_get _ i hi), by rw [hlen]; omega⟩, hlen⟩
      clear hw1 r1 hrd hal hpl hS hb E HX
      go_wp2_with fail
      go_roundw
      case rel => exact ⟨j + 1, _, _, _, by omega, by go_num, rfl, hS1, b1⟩
      case measure => simp [intOf]; omega
    · have hjl : j = ln := by omega
      subst hjl
      have e : ps.take j = ps := List.take_of_length_le (by rw [HL.out]; omega)
      rw [e] at hS
      have hal := all_length_le ps
      have hpl := HL.out
      obtain ⟨v1, w1, hr1, ho1, hg1, -⟩ := run_append_slc wr w.heap.size 22 (.slice none 0 0) (.slice C m c) [] (all ps) (own_nil _ _) hS.out.1 (by simp; omega) hb.size
      have b1 : Below w.heap.size w w1 := own_below (own_nil wr w.heap.size) hg1 hb hb.size
      have hzl := HZ.out
      obtain ⟨v2, w2, hr2, ho2, hg2, -⟩ := run_append_slc w1 w.heap.size 22 v1 (.slice B bn bc) ([] ++ all ps) zs ho1 (HR.out.keep b1) (by simp; omega) b1.size
      have b2 : Below w.heap.size w w2 := own_below ho1 hg2 b1 b1.size
      rw [List.nil_append] at ho2
      obtain ⟨A2, c2, e2, hrd2, hc2⟩ := ho2.slc.slice
      have hbound : (all ps ++ zs).length ≤ 16777216 := by simp; omega
      generalize hn2 : (all ps ++ zs).length = n2 at e2 hc2 hbound
      have HN2 := veil hn2
      subst e2
      clear hn2 e hal hpl hzl ho1 hg1 ho2 hg2 b1 hb hS hc2
      have HR1 := veil hr1
      have HR2 := veil hr2
      clear hr1 hr2
      go_wp2_with (first
        | (at_builtin; refine wpList_append_run rfl (.const (.slice none 0 0)) (.tmp 52) rfl rfl rfl HR1.out ?_)
        | (at_builtin; refine wpList_append_run rfl (.tmp 53) (.tmp 54) rfl rfl rfl HR2.out ?_))
      refine (of_new A2 n2 c2 (all ps ++ zs) _ HN2.out hbound (fun z hz => by
        rcases List.mem_append.1 hz with h | h
        · exact all_byt ps z h
        · exact HY.out z h) hrd2).mono ?_
      rintro e w3 ⟨rfl, hc3, b3', hs3, -⟩
      have b3 : Below w.heap.size w w3 := b2.trans (b3'.mono b2.size)
      have hg3 : w.heap.size ≤ w2.heap.size + 1 := by have := b2.size; omega
      generalize w2.heap.size + 1 = g at hc3 hg3 ⊢
      generalize w2.heap.size = d at hc3 ⊢
      clear HR1 HR2 hrd2 b3' hs3 b2
      generalize (all ps ++ zs).length = c3 at hc3
      have HC : Hid (Cut w3 g d 0 c3 (all (ps.drop 0) ++ zs)) := hc3
      clear hc3 HN2
      go_wp2_with fail
      go_loopw [10] (fun i wr => ∃ (k oo cc : Nat), k ≤ j ∧ i = .int .i64 k ∧ Hid (Cut wr g d oo cc (all (ps.drop k) ++ zs)) ∧ Below w.heap.size w wr) (fun i _ => j - (intOf i).toNat)
      case atStart => exact ⟨0, 0, c3, Nat.zero_le _, rfl, HC, b3⟩
      case round =>
        obtain ⟨k, oo, cc, hk, rfl, hC, hb⟩ := hrel
        clear HC b3
        by_cases hlt : k < j
        · have hjl : k < ps.length := by rw [HL.out]; exact hlt
          obtain ⟨d2, o2, rfl, h0, h1⟩ := (HN.out.keep hb) k hjl
          have hf := fine_at HF.out k hjl
          have E := veil (all_drop ps k hjl)
          generalize ps.getD k (0, 0) = p at h0 h1 hf E
          obtain ⟨x, y⟩ := p
          simp only at h0 h1 hf E
          obtain ⟨hx, hy0, hy1⟩ := hf
          have hW := wid_le y
          have HW := veil (wid_eq y)
          have hC' := hC.out
          rw [E.out, List.append_assoc] at hC'
          have HC' := veil hC'
          have HB := veil (cut_back x _ (wid y) hC' HW.out hW.1 hW.2 hx.1)
          have hx0 := hx.1
          by_cases h7 : wid y ≤ 7
          · have hD : IntKind.u64.wrap (2 ^ (8 * (1 + y % 8)).toNat) = 256 ^ wid y := by rw [HW.out, show (8 * (wid y : Int)).toNat = 8 * wid y by omega]; exact wide_pow _ h7
            have hDp := pow_pos256 (wid y)
            have hm7 : y % 8 < 7 := by have := HW.out; omega
            generalize (256 : Int) ^ wid y = D at hD hDp HB
            have hDz : ¬ D = 0 := by omega
            clear hC' hC E hx HC'
            go_wp2_with fail
            refine (HB.out).mono ?_
            rintro e w4 ⟨rfl, hg4, hc4⟩
            have b4 := below_gb hb hg4 hb.size hg3
            have hC4 := veil hc4
            clear HB hg4 hb
            go_wp2_with fail
            refine (hc4.bad_).mono ?_
            rintro e w' ⟨rfl, rfl⟩
            clear hc4
            go_wp2_with fail
            go_roundw
            case rel => exact ⟨k + 1, _, _, by omega, by go_num, hC4, b4⟩
            case measure => simp [intOf]; omega
          · have h8 : wid y = 8 := by omega
            have e8 : x % 256 ^ wid y = x := by rw [h8]; exact Int.emod_eq_of_lt hx.1 hx.2
            rw [e8] at HB
            have hm7 : 7 ≤ y % 8 := by have := HW.out; omega
            clear hC' hC E hx HC' h8 e8
            go_wp2_with fail
            refine (HB.out).mono ?_
            rintro e w4 ⟨rfl, hg4, hc4⟩
            have b4 := below_gb hb hg4 hb.size hg3
            have hC4 := veil hc4
            clear HB hg4 hb
            go_wp2_with fail
            refine (hc4.bad_).mono ?_
            rintro e w' ⟨rfl, rfl⟩
            clear hc4
            go_wp2_with fail
            go_roundw
            case rel => exact ⟨k + 1, _, _, by omega, by go_num, hC4, b4⟩
            case measure => simp [intOf]; omega
        · have hkj : k = j := by omega
          subst hkj
          have e0 : ps.drop k = [] := List.drop_eq_nil_of_le (by rw [HL.out]; omega)
          have hC' := hC.out
          rw [e0] at hC'
          have hc5 : Cut wr g d oo cc zs := hC'
          have hl5 := hc5.left_
          rw [HZ.out] at hl5
          have hr5 := hc5.rest_
          rw [HZ.out] at hr5
          have HC5 := veil hc5
          have HL5 := veil hl5
          have HR5 := veil hr5
          clear hC hC' e0 hc5 hl5 hr5
          go_wp2_with fail
          refine (HL5.out).mono ?_
          rintro e w' ⟨rfl, rfl⟩
          go_wp2_with fail
          refine (HR5.out).mono ?_
          rintro e w6 ⟨rfl, hg6, hc6⟩
          have b6 := below_gb hb hg6 hb.size hg3
          have hrd6 : Rd w6 (some ⟨d, oo, none⟩) zs := HC5.out.rd.gb hg6 (fun a ha => by injection ha with ha; subst ha; intro e; injection e with e; exact HC5.out.ne e)
          have hrd7 : Rd w6 B zs := (slc_rd (HR.out.keep b6)).1
          clear HL5 HR5 HC5 hg6 hb
          go_wp2_with fail
          refine (sameBytes_eq _ _ bn bn bc zs _ HZ.out (by unfold maxLen; omega) hrd6 hrd7).mono ?_
          rintro e w7 ⟨rfl, hw7⟩
          have hq := below_still (Below.refl w6.heap.size w6) hw7
          have hc7 := hc6.keep hq
          have b7 := below_still b6 hw7
          clear hw7 hq hc6 b6 hrd6 hrd7
          go_wp2_with fail
          refine (hc7.bad_).mono ?_
          rintro e w' ⟨rfl, rfl⟩
          go_wp2_with fail
          refine (hc7.left_).mono ?_
          rintro e w' ⟨rfl, rfl⟩
          clear hc7
          go_wp2_with fail
          refine (lives_true _).mono ?_
          rintro e w8 ⟨rfl, hw8⟩
          go_wp2_with fail
          go_ret
          exact ⟨rfl, b7.trans (hw8.mono b7.size)⟩

/-- more than are gone through -/
theorem walk_more (A B : Option Addr) (ln lc bn bc : Nat) (w : World) (h : 100 < ln ∨ 1000 < bn) :
    Calls Try.prog 6 #[.slice A ln lc, .slice B bn bc] w fun e w' => e = .returned (.bool true) ∧ Below w.heap.size w w' := by
  by_cases h1 : 100 < ln
  · clear h
    go_enter Try.func6, Try.ntmps6
    go_wp2_with fail
    refine (lives_true _).mono ?_
    rintro e w8 ⟨rfl, hw8⟩
    go_wp2_with fail
    go_ret
    exact ⟨rfl, hw8⟩
  · have h2 : 1000 < bn := by omega
    have h3 : ln ≤ 100 := by omega
    clear h h1
    go_enter Try.func6, Try.ntmps6
    go_wp2_with fail
    refine (lives_true _).mono ?_
    rintro e w8 ⟨rfl, hw8⟩
    go_wp2_with fail
    go_ret
    exact ⟨rfl, hw8⟩

theorem own : ownKnob Try.prog.godebug = none := by kernel_rfl
theorem readable : ∀ t ∈ Try.f6.params.toList, Try.prog.readableRec t = true ∧ t < Try.prog.types.size := by
  rw [Try.params6]
  intro t ht
  simp at ht
  rcases ht with rfl | rfl
  · exact ⟨by kernel_rfl, of_decide_eq_true (by kernel_rfl)⟩
  · exact ⟨by kernel_rfl, of_decide_eq_true (by kernel_rfl)⟩
theorem cells44 : Try.prog.cellsOf 44 = 1 := by kernel_rfl
theorem cellsNum : Try.prog.cellsOf 55 = 2 := by kernel_rfl

section
variable {H : Type} {enc : TypeId × Value → H} {W : World} {base : Nat} {sp : Nat → Bool} {held : Bool}
theorem open_nums {v : Value} {d : DataW H} {p : List MemPlace} {r : Reach} {b0 : Nat} (hv : Value.okWide Try.prog W r b0 53 v) (h : DataW.Trod enc Try.prog W base sp held 53 v d p) :
    ∃ A n c ps, v = .slice A n c ∧ Nums W A ps ∧ ps.length = n ∧ Fine ps := by
  obtain ⟨fuel, hf⟩ := h
  obtain ⟨A, n, c, rfl⟩ := okWide_slice Try.underlying53 hv
  rcases Go.Deep.open_slice_pairs Try.underlying53 Try.underlying55 cellsNum rfl rfl cells44 cells5 hf with ⟨h0, _⟩ | ⟨a, len, cap, m, k, V0, V1, D0, D1, P0, P1, h0, _, hl, _, hm, _, hi⟩
  · simp [Value.cells] at h0
    obtain ⟨rfl, rfl, rfl⟩ := h0
    exact ⟨none, 0, 0, [], rfl, by simp [Nums], rfl, by simp [Fine]⟩
  · simp [Value.cells] at h0
    obtain ⟨rfl, rfl, rfl⟩ := h0
    have hlm : n ≤ m := by rw [hm]; split <;> omega
    have each : ∀ i, i < n → ∃ q : Int × Int, W.cell? (a.add (i * 2)) = some (.int .u64 q.1) ∧ W.cell? (a.add (i * 2 + 1)) = some (.int .u8 q.2) ∧ (0 ≤ q.1 ∧ q.1 < 256 ^ 8) ∧ 0 ≤ q.2 ∧ q.2 ≤ 255 := by
      intro i hin
      obtain ⟨c0, c1, t0, t1⟩ := hi i (by omega)
      obtain ⟨x, e0, _, wx⟩ := DataW.trod_int Try.underlying44 t0
      obtain ⟨y, e1, _, wy⟩ := DataW.trod_int Try.underlying5 t1
      simp at e0 e1
      exact ⟨(x, y), by rw [c0, e0], by rw [c1, e1], u64_of wx, u8_of wy⟩
    have hq : ∃ f : Nat → Int × Int, ∀ i, i < n → W.cell? (a.add (i * 2)) = some (.int .u64 (f i).1) ∧ W.cell? (a.add (i * 2 + 1)) = some (.int .u8 (f i).2) ∧ (0 ≤ (f i).1 ∧ (f i).1 < 256 ^ 8) ∧ 0 ≤ (f i).2 ∧ (f i).2 ≤ 255 :=
      ⟨fun i => if h : i < n then (each i h).choose else (0, 0), fun i h => by simp only [h, dif_pos]; exact (each i h).choose_spec⟩
    obtain ⟨f, hf⟩ := hq
    refine ⟨some a, n, c, (List.range n).map f, rfl, ?_, by simp, ?_⟩
    · intro i hin
      have hin' : i < n := by simpa using hin
      have hs : a.spot = none := by
        have h00 := (hf 0 (by omega)).1
        simp only [World.cell?, Nat.zero_mul, Addr.add, if_true] at h00
        split at h00
        · split at h00
          · cases h00
          · rename_i h1
            cases hsp : a.spot with
            | none => rfl
            | some x => simp [hsp] at h1
        · cases h00
      obtain ⟨b, o, s⟩ := a
      simp only at hs
      subst hs
      obtain ⟨g0, g1, _⟩ := hf i hin'
      have e : ((List.range n).map f).getD i (0, 0) = f i := by simp [List.getD, hin']
      rw [e]
      refine ⟨b, o, rfl, ?_, ?_⟩
      · rw [← g0]
        congr 1
        simp [Addr.add]
      · rw [← g1]
        congr 1
    · intro p hp
      obtain ⟨i, hin, rfl⟩ := List.mem_map.1 hp
      exact (hf i (by simpa using hin)).2.2
end

set_option maxRecDepth 100000 in
theorem lifted (os : Os) (started : os.Started) (H : Type) (enc : TypeId × Value → H) :
    ReturnsInHanded {} Try.checked os 6 .any (Rows.octetsBackSpec.pre6 enc Try.prog Try.f6 Rows.octetsBackRow.domain false) (Rows.octetsBackSpec.post enc Try.prog Try.f6 false true false false) := by
  refine returnsInHanded_of_change (C := Try.checked) own started (by kernel_rfl) Try.func6
    (ChangeSpec.witness6 (enc := enc) (C := Try.checked) false ⟨#[], #[.slice none 0 0, .slice none 0 0], []⟩ 8 (by kernel_rfl) (by kernel_rfl) (by kernel_rfl) (by kernel_rfl)) ?_
  intro W base args ds gs before hval0 hW _ _
  have hval : ∀ (j : Nat) t v, Try.f6.params[j]? = some t → args[j]? = some v → Value.okWide Try.prog W .any base t v := hval0
  have hW' := hW
  obtain ⟨p, q, hA0, hV, rfl, _, _⟩ := hW
  have hA : DataW.TrodAll enc Try.prog W 0 (fun _ => true) true Try.f6.params.toList args.toList ds p := hA0
  rw [Try.params6] at hA hval
  obtain ⟨v0, vs0, d0, ds0, p0, q0, hargs, rfl, rfl, h0, r0⟩ := trodAll_cons hA
  obtain ⟨v1, vs1, d1, ds1, p1, q1, rfl, rfl, rfl, h1, r1⟩ := trodAll_cons r0
  obtain ⟨rfl, rfl, rfl⟩ := trodAll_nil r1
  obtain rfl : args = #[v0, v1] := by cases args; simp_all
  obtain ⟨rfl, rfl⟩ := trodVars_none hV
  obtain ⟨A, ln, lc, ps, rfl, hN, hl, hF⟩ := open_nums (hval 0 53 v0 rfl rfl) h0
  obtain ⟨B, bn, bc, zs, rfl, hS, hz, hY⟩ := open_bytes (hval 1 22 v1 rfl rfl) h1
  have hw : Calls Try.prog 6 #[.slice A ln lc, .slice B bn bc] W fun e w' => e = .returned (.bool true) ∧ Below W.heap.size W w' := by
    by_cases hs : ln ≤ 100 ∧ bn ≤ 1000
    · exact walk A B ln lc bn bc ps zs W hl hz hs.1 hs.2 hN hF hS hY
    · exact walk_more A B ln lc bn bc W (by omega)
  refine hw.mono fun e W' ⟨he, hb⟩ => ?_
  subst he
  exact ⟨_, rfl, law_post (by kernel_rfl) rfl rfl Try.underlying4 readable hW' rfl hb⟩

/-- OctetsBack, as given -/
theorem holds : Rows.OctetsBackSaid :=
  OpenClaim.holds_of_wide 6 Try.f6 rfl rfl rfl rfl rfl rfl rfl ⟨rfl, rfl, rfl, rfl, rfl⟩ rfl rfl rfl rfl rfl (by kernel_rfl) Try.func6 (by kernel_rfl)
    (of_decide_eq_true (by kernel_rfl)) (by unfold Func.isWrapper; first | (rw [if_pos (by decide +kernel)]; kernel_rfl) | (rw [if_neg (by decide +kernel)]; exact ⟨rfl, rfl⟩))
    (fun os started H enc _ => lifted os started H enc)

#print axioms holds
end Go.Proofs.Ytddmjenhpbbocaa.octetsBack
