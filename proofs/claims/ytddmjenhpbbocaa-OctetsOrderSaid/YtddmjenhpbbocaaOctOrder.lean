/-
  OctetsOrder: of two numbers the greater one has the greater bytes: the law returns true for every two numbers and every width, and its arguments read as before.
  Conditions: none.
-/
import Derived.Test.YtddmjenhpbbocaaOctH
import Derived.Test.YtddmjenhpbbocaaLaw
import Derived.Laws.BytesArg
namespace Go.Proofs.Ytddmjenhpbbocaa.octetsOrder
open Go.ChangeShapes Go.WideShapes Go.ChangeAt Go.RowKit

theorem put_nil (n kI : Int) (k : Nat) (w : World) (hk : kI = k) (h1 : 1 ≤ k) (h8 : k ≤ 8) :
    Calls Try.prog 21 #[.slice none 0 0, .int .u64 n, .int .i64 kI] w fun e w' => e = .returned (.slice (some ⟨w.heap.size, 0, none⟩) k k) ∧ w.alloc (.cells (bv (be n k)).toArray 5) = w' := by
  subst hk
  have h := put_yes none 0 0 [] n k w rfl (by omega) (by simp [Rd]) h1 h8
  simpa using h

/-- a slice of new bytes as a string -/
theorem conv (b k : Nat) (xs : List Int) (w : World) (hl : xs.length = k) (h : Row w b 5 (bv xs).toArray) :
    (convert 22 9 (.slice (some ⟨b, 0, none⟩) k k)).run Try.prog w = .ok (.string (strOfNums xs)) w :=
  run_convert_bytes_arg w 22 5 Try.underlying22 Try.underlying5 b 0 k k xs hl (fun i hi => by rw [h.cell, Nat.zero_add]; simpa using bv_get xs i (by omega)) 9 Try.underlying9

/-- the order of numbers is that of their bytes -/
theorem order (M N : Int) (k : Nat) (hM : 0 ≤ M ∧ M < 256 ^ k) (hN : 0 ≤ N ∧ N < 256 ^ k) :
    Op.bytesLess (strOfNums (be M k)).toList (strOfNums (be N k)).toList = decide (M < N) ∧ ((strOfNums (be M k)).toList == (strOfNums (be N k)).toList) = decide (M = N) := by
  have e : ∀ l, (strOfNums l).toList = u8s l := fun l => by simp [strOfNums, u8s]
  have h := bytesLess_u8s (be M k) (be N k) (by simp [be_length]) (be_byt M k) (be_byt N k)
  have g := less_num (be M k) (be N k) (by simp [be_length]) (be_byt M k) (be_byt N k)
  rw [num_be M hM.1, num_be N hN.1, Int.emod_eq_of_lt hM.1 hM.2, Int.emod_eq_of_lt hN.1 hN.2] at g
  rw [e, e, h.1, h.2, g.1, g.2]
  exact ⟨rfl, rfl⟩

set_option maxHeartbeats 1000000 in
theorem walk_lt (m n many : Int) (k : Nat) (w : World) (h0 : 0 ≤ many) (h1 : many ≤ 255) (hk : 1 + many % 8 = k) (hlt : k ≤ 7) (m0 : 0 ≤ m) (n0 : 0 ≤ n) :
    Calls Try.prog 8 #[.int .u64 m, .int .u64 n, .int .u8 many] w fun e w' => e = .returned (.bool true) ∧ Below w.heap.size w w' := by
  have hD : IntKind.u64.wrap (2 ^ (8 * (1 + many % 8)).toNat) = 256 ^ k := by rw [hk, show (8 * (k : Int)).toNat = 8 * k by omega]; exact wide_pow k hlt
  have hDp := pow_pos256 k
  have HK := veil hk
  have hm7 : many % 8 < 7 := by omega
  clear hk
  generalize hG : (256 : Int) ^ k = D at hD hDp
  have HG := veil hG
  clear hG
  have hDz : ¬ D = 0 := by omega
  go_enter Try.func8, Try.ntmps8
  go_wp2_with fail
  have hM := veil (And.intro (Int.emod_nonneg m hDz) (Int.emod_lt_of_pos m hDp))
  have hN := veil (And.intro (Int.emod_nonneg n hDz) (Int.emod_lt_of_pos n hDp))
  generalize m % D = M at hM ⊢
  generalize n % D = N at hN ⊢
  have ho := order M N k (by rw [HG.out]; exact hM.out) (by rw [HG.out]; exact hN.out)
  have hk1 : 1 ≤ k := by have := HK.out; omega
  clear hD hDp hDz hM hN HG m0 n0
  refine (put_nil _ _ k _ HK.out hk1 (by omega)).mono ?_
  rintro e w1 ⟨rfl, hw1⟩
  have r1 : Row w1 w.heap.size 5 (bv (be M k)).toArray := by subst hw1; exact row_new rfl
  have b1 : Below w.heap.size w w1 := by subst hw1; exact below_new _ _
  clear hw1
  go_wp2_with fail
  refine (put_nil _ _ k _ HK.out hk1 (by omega)).mono ?_
  rintro e w2 ⟨rfl, hw2⟩
  have r2 : Row w2 w1.heap.size 5 (bv (be N k)).toArray := by subst hw2; exact row_new rfl
  have q2 : Below w1.heap.size w1 w2 := by subst hw2; exact below_new _ _
  have b2 : Below w.heap.size w w2 := b1.trans (q2.mono b1.size)
  have c1 := conv w.heap.size k (be M k) w2 (be_length _ _) (r1.keep q2)
  have c2 := conv w1.heap.size k (be N k) w2 (be_length _ _) r2
  have hkk : ((k : Int) == 1 + many % 8) = true := beq_iff_eq.2 HK.out.symm
  clear r1 r2 q2 b1 hw2
  go_wp2_with fail
  refine (lives_true _).mono ?_
  rintro e w3 ⟨rfl, hw3⟩
  go_wp2_with fail
  go_ret
  exact ⟨rfl, b2.trans (hw3.mono b2.size)⟩

set_option maxHeartbeats 1000000 in
theorem walk_eq (M N many : Int) (k : Nat) (w : World) (h0 : 0 ≤ many) (h1 : many ≤ 255) (hk : 1 + many % 8 = k) (hlt : k = 8) (hM : 0 ≤ M ∧ M < 256 ^ k) (hN : 0 ≤ N ∧ N < 256 ^ k) :
    Calls Try.prog 8 #[.int .u64 M, .int .u64 N, .int .u8 many] w fun e w' => e = .returned (.bool true) ∧ Below w.heap.size w w' := by
  have HK := veil hk
  have hm7 : 7 ≤ many % 8 := by omega
  have ho := order M N k hM hN
  have hk1 : 1 ≤ k := by omega
  have hk8 : k ≤ 8 := by omega
  clear hk hM hN hlt
  go_enter Try.func8, Try.ntmps8
  go_wp2_with fail
  refine (put_nil _ _ k _ HK.out hk1 hk8).mono ?_
  rintro e w1 ⟨rfl, hw1⟩
  have r1 : Row w1 w.heap.size 5 (bv (be M k)).toArray := by subst hw1; exact row_new rfl
  have b1 : Below w.heap.size w w1 := by subst hw1; exact below_new _ _
  clear hw1
  go_wp2_with fail
  refine (put_nil _ _ k _ HK.out hk1 hk8).mono ?_
  rintro e w2 ⟨rfl, hw2⟩
  have r2 : Row w2 w1.heap.size 5 (bv (be N k)).toArray := by subst hw2; exact row_new rfl
  have q2 : Below w1.heap.size w1 w2 := by subst hw2; exact below_new _ _
  have b2 : Below w.heap.size w w2 := b1.trans (q2.mono b1.size)
  have c1 := conv w.heap.size k (be M k) w2 (be_length _ _) (r1.keep q2)
  have c2 := conv w1.heap.size k (be N k) w2 (be_length _ _) r2
  have hkk : ((k : Int) == 1 + many % 8) = true := beq_iff_eq.2 HK.out.symm
  clear r1 r2 q2 b1 hw2
  go_wp2_with fail
  refine (lives_true _).mono ?_
  rintro e w3 ⟨rfl, hw3⟩
  go_wp2_with fail
  go_ret
  exact ⟨rfl, b2.trans (hw3.mono b2.size)⟩

theorem walk (m n many : Int) (w : World) (hm : (Lit.int .u64 m).wf = true) (hn : (Lit.int .u64 n).wf = true) (hy : (Lit.int .u8 many).wf = true) :
    Calls Try.prog 8 #[.int .u64 m, .int .u64 n, .int .u8 many] w fun e w' => e = .returned (.bool true) ∧ Below w.heap.size w w' := by
  have h1 : 0 ≤ m ∧ m ≤ 18446744073709551615 := by simpa [Lit.wf, IntKind.min, IntKind.max, IntKind.signed, IntKind.bits] using hm
  have h2 : 0 ≤ n ∧ n ≤ 18446744073709551615 := by simpa [Lit.wf, IntKind.min, IntKind.max, IntKind.signed, IntKind.bits] using hn
  have h3 : 0 ≤ many ∧ many ≤ 255 := by simpa [Lit.wf, IntKind.min, IntKind.max, IntKind.signed, IntKind.bits] using hy
  by_cases hlt : many % 8 < 7
  · exact walk_lt m n many (1 + many % 8).toNat w h3.1 h3.2 (by omega) (by omega) h1.1 h2.1
  · have e : (256 : Int) ^ 8 = 18446744073709551616 := by decide
    exact walk_eq m n many 8 w h3.1 h3.2 (by omega) rfl (by rw [e]; omega) (by rw [e]; omega)

theorem own : ownKnob Try.prog.godebug = none := by kernel_rfl
theorem readable : ∀ t ∈ Try.f8.params.toList, Try.prog.readableRec t = true ∧ t < Try.prog.types.size := by
  rw [Try.params8]
  intro t ht
  simp at ht
  rcases ht with rfl | rfl
  · exact ⟨by kernel_rfl, of_decide_eq_true (by kernel_rfl)⟩
  · exact ⟨by kernel_rfl, of_decide_eq_true (by kernel_rfl)⟩

set_option maxRecDepth 100000 in
theorem lifted (os : Os) (started : os.Started) (H : Type) (enc : TypeId × Value → H) :
    ReturnsInHanded {} Try.checked os 8 .any (Rows.octetsOrderSpec.pre6 enc Try.prog Try.f8 Rows.octetsOrderRow.domain false) (Rows.octetsOrderSpec.post enc Try.prog Try.f8 false true false false) := by
  refine returnsInHanded_of_change (C := Try.checked) own started (by kernel_rfl) Try.func8
    (ChangeSpec.witness6 (enc := enc) (C := Try.checked) false ⟨#[], #[.int .u64 0, .int .u64 0, .int .u8 0], []⟩ 8 (by kernel_rfl) (by kernel_rfl) (by kernel_rfl) (by kernel_rfl)) ?_
  intro W base args ds gs before hval0 hW _ _
  have hval : ∀ (j : Nat) t v, Try.f8.params[j]? = some t → args[j]? = some v → Value.okWide Try.prog W .any base t v := hval0
  have hW' := hW
  obtain ⟨p, q, hA0, hV, rfl, _, _⟩ := hW
  have hA : DataW.TrodAll enc Try.prog W 0 (fun _ => true) true Try.f8.params.toList args.toList ds p := hA0
  rw [Try.params8] at hA hval
  obtain ⟨v0, vs0, d0, ds0, p0, q0, hargs, rfl, rfl, h0, r0⟩ := trodAll_cons hA
  obtain ⟨v1, vs1, d1, ds1, p1, q1, rfl, rfl, rfl, h1, r1⟩ := trodAll_cons r0
  obtain ⟨v2, vs2, d2, ds2, p2, q2, rfl, rfl, rfl, h2, r2⟩ := trodAll_cons r1
  obtain ⟨rfl, rfl, rfl⟩ := trodAll_nil r2
  obtain rfl : args = #[v0, v1, v2] := by cases args; simp_all
  obtain ⟨rfl, rfl⟩ := trodVars_none hV
  obtain ⟨a0, rfl, rfl, rfl, w0⟩ := open_int Try.underlying44 (hval 0 44 v0 rfl rfl) h0
  obtain ⟨a1, rfl, rfl, rfl, w1⟩ := open_int Try.underlying44 (hval 1 44 v1 rfl rfl) h1
  obtain ⟨a2, rfl, rfl, rfl, w2⟩ := open_int Try.underlying5 (hval 2 5 v2 rfl rfl) h2
  refine (walk a0 a1 a2 W w0 w1 w2).mono fun e W' ⟨he, hb⟩ => ?_
  subst he
  exact ⟨_, rfl, law_post (by kernel_rfl) rfl rfl Try.underlying4 readable hW' rfl hb⟩

/-- OctetsOrder, as given -/
theorem holds : Rows.OctetsOrderSaid :=
  OpenClaim.holds_of_wide 8 Try.f8 rfl rfl rfl rfl rfl rfl rfl ⟨rfl, rfl, rfl, rfl, rfl⟩ rfl rfl rfl rfl rfl (by kernel_rfl) Try.func8 (by kernel_rfl)
    (of_decide_eq_true (by kernel_rfl)) (by unfold Func.isWrapper; first | (rw [if_pos (by decide +kernel)]; kernel_rfl) | (rw [if_neg (by decide +kernel)]; exact ⟨rfl, rfl⟩))
    (fun os started H enc _ => lifted os started H enc)

#print axioms holds
end Go.Proofs.Ytddmjenhpbbocaa.octetsOrder
