/-
  OctetsPut: behind any bytes any number, of however many bytes, is put as the chapter says; the bytes stay, and nothing is shared: the law returns true for every input, and its arguments read as before.
  Conditions: none.
-/
import Derived.Test.YtddmjenhpbbocaaOpen
import Derived.Test.YtddmjenhpbbocaaBookC
import Derived.Test.YtddmjenhpbbocaaTwin
import Derived.Test.YtddmjenhpbbocaaRefA
namespace Go.Proofs.Ytddmjenhpbbocaa.octetsPut
open Go.ChangeShapes Go.WideShapes Go.ChangeAt Go.RowKit

/-- in how many bytes a number is put -/
def wd (many : Int) : Nat := if 1 ≤ many ∧ many ≤ 8 then many.toNat else 8
theorem wd_le (many : Int) : 1 ≤ wd many ∧ wd many ≤ 8 := by unfold wd; split <;> omega

theorem put_all (A : Option Addr) (m c : Nat) (zs : List Int) (n many : Int) (w : World) (hl : zs.length = m) (hm : m ≤ 16000000) (hr : Rd w A zs) :
    Calls Try.prog 21 #[.slice A m c, .int .u64 n, .int .i64 many] w fun e w' => e = .returned (.slice (some ⟨w.heap.size, 0, none⟩) (m + wd many) (m + wd many)) ∧
      w.alloc (.cells (bv (zs ++ be n (wd many))).toArray 5) = w' := by
  by_cases h : 1 ≤ many ∧ many ≤ 8
  · obtain ⟨k, rfl⟩ := Int.eq_ofNat_of_zero_le (show 0 ≤ many by omega)
    have e : wd (k : Int) = k := by unfold wd; rw [if_pos h]; omega
    rw [e]
    exact put_yes A m c zs n k w hl hm hr (by omega) (by omega)
  · have e : wd many = 8 := by unfold wd; rw [if_neg h]
    rw [e]
    exact put_no A m c zs n many w hl hm hr (by omega)
theorem refPut_all (A : Option Addr) (m c : Nat) (zs : List Int) (n many : Int) (w : World) (hl : zs.length = m) (hm : m ≤ 16000000) (hr : Slc w (.slice A m c) zs) (hn : 0 ≤ n ∧ n < 256 ^ 8) :
    Calls Try.prog 22 #[.slice A m c, .int .u64 n, .int .i64 many] w (Gives w (zs ++ be n (wd many))) := by
  by_cases h : 1 ≤ many ∧ many ≤ 8
  · obtain ⟨k, rfl⟩ := Int.eq_ofNat_of_zero_le (show 0 ≤ many by omega)
    have e : wd (k : Int) = k := by unfold wd; rw [if_pos h]; omega
    rw [e]
    exact refPut_yes A m c zs n k w hl hm hr (by omega) (by omega) hn
  · have e : wd many = 8 := by unfold wd; rw [if_neg h]
    rw [e]
    exact refPut_no A m c zs n many w hl hm hr (by omega) hn

set_option maxHeartbeats 2000000 in
theorem walk (A : Option Addr) (m c : Nat) (zs : List Int) (n many : Int) (w : World) (hl : zs.length = m) (hm : m ≤ 5000) (hS : Slc w (.slice A m c) zs) (hn : 0 ≤ n ∧ n < 256 ^ 8) :
    Calls Try.prog 4 #[.slice A m c, .int .u64 n, .int .i64 many] w fun e w' => e = .returned (.bool true) ∧ Below w.heap.size w w' := by
  have HL := veil hl
  have HS := veil hS
  have HN := veil hn
  have hwd := wd_le many
  clear hl hS hn
  go_enter Try.func4, Try.ntmps4
  go_wp2_with fail
  refine (twinBytes_any A m c zs _ HL.out (by omega) (slc_rd HS.out).1).mono ?_
  rintro e w1 ⟨rfl, hw1⟩
  have t1 : TwinAt w1 w.heap.size zs := by subst hw1; exact row_new rfl
  have b1 : Below w.heap.size w w1 := by subst hw1; exact below_new _ _
  have s1 : w.heap.size < w1.heap.size := t1.lt
  have T1 := veil t1
  clear hw1 t1
  go_wp2_with fail
  refine (put_all _ m (m + 4) zs n many w1 HL.out (by omega) T1.out.rd).mono ?_
  rintro e w2 ⟨rfl, hw2⟩
  have r2 : Row w2 w1.heap.size 5 (bv (zs ++ be n (wd many))).toArray := by subst hw2; exact row_new rfl
  have q2 : Below w1.heap.size w1 w2 := by subst hw2; exact below_new _ _
  have b2 : Below w.heap.size w w2 := b1.trans (q2.mono (by omega))
  have T2 := veil (T1.out.keep q2)
  have R2 := veil r2
  have hle : Hid ((zs ++ be n (wd many)).length = m + wd many) := by simp [Hid, be_length]; exact HL.out
  clear hw2 r2 q2 T1 b1
  go_wp2_with fail
  refine (refPut_all A m c zs n many w2 HL.out (by omega) (HS.out.keep b2) HN.out).mono ?_
  rintro e w3 ⟨A3, m3, c3, rfl, hm3, ho3, q3⟩
  have em3 : m3 = m + wd many := by rw [hm3]; exact hle.out
  subst em3
  have T3 := veil (T2.out.keep q3)
  have R3 := veil (R2.out.keep q3)
  have b3 := b2.trans (q3.mono b2.size)
  have d3 := veil (slc_rd ho3.slc).1
  have s3 : w1.heap.size < w3.heap.size := R3.out.lt
  clear hm3 ho3 q3 T2 R2 b2
  go_wp2_with fail
  refine (sameBytes_eq _ _ (m + wd many) _ _ (zs ++ be n (wd many)) _ hle.out (by unfold maxLen; omega) (rd_row R3.out (fun j hj => by rw [Nat.zero_add]; exact bv_get _ j hj)) d3.out).mono ?_
  rintro e w4 ⟨rfl, hw4⟩
  have q4 := below_still (Below.refl w3.heap.size w3) hw4
  have T4 := veil (T3.out.keep q4)
  have R4 := veil (R3.out.keep q4)
  have b4 := b3.trans (q4.mono b3.size)
  have s4 : w1.heap.size < w4.heap.size := R4.out.lt
  clear hw4 q4 T3 R3 b3 d3 s3
  go_wp2_with fail
  refine (leftBytes_true _ _ m (m + 4) c zs _ HL.out (by omega) T4.out (slc_rd (HS.out.keep b4)).1 (by omega)).mono ?_
  rintro e w5 ⟨rfl, hw5⟩
  have q5 := below_still (Below.refl w4.heap.size w4) hw5
  have T5 := veil (T4.out.keep q5)
  have R5 := veil (R4.out.keep q5)
  have b5 := b4.trans (q5.mono b4.size)
  have s5 : w1.heap.size < w5.heap.size := R5.out.lt
  clear hw5 q5 T4 R4 b4 s4
  go_wp2_with fail
  have hB6 := book_new w5
  have q6 := below_new w5 (.cells #[.slice none 0 0] 32)
  have T6 := veil (T5.out.keep q6)
  have R6 := veil (R5.out.keep q6)
  have b6 := b5.trans (q6.mono b5.size)
  have s6 : w5.heap.size ≤ (w5.alloc (.cells #[.slice none 0 0] 32)).heap.size := q6.size
  have s56 : w.heap.size ≤ w5.heap.size := b5.size
  generalize w5.alloc (.cells #[.slice none 0 0] 32) = w6 at hB6 q6 T6 R6 b6 s6 ⊢
  generalize w5.heap.size = k at hB6 s6 s5 s56 ⊢
  have HB6 := veil hB6
  clear hB6 q6 T5 R5 b5
  refine (note_any w6 k k [] _ _ _ HB6.out (by simp) s6).mono ?_
  rintro e w7 ⟨rfl, ⟨x7, y7, hB7⟩, hf7⟩
  have T7 := veil (hf7.row T6.out)
  have R7 := veil (hf7.row R6.out)
  have b7 := b6.trans (hf7.1.mono s56)
  have s7 : k ≤ w7.heap.size := Nat.le_trans s6 hf7.1.size
  have HB7 := veil hB7
  clear hB7 hf7 HB6 T6 R6 b6 s6
  go_wp2_with fail
  refine (put_all _ m (m + 4) zs n many w7 HL.out (by omega) (TwinAt.rd T7.out)).mono ?_
  rintro e w8 ⟨rfl, hw8⟩
  have r8 : Row w8 w7.heap.size 5 (bv (zs ++ be n (wd many))).toArray := by subst hw8; exact row_new rfl
  have q8 : Below w7.heap.size w7 w8 := by subst hw8; exact below_new _ _
  have T8 := veil (T7.out.keep q8)
  have R8 := veil (R7.out.keep q8)
  have HB8 := veil (HB7.out.keep q8)
  have b8 := b7.trans (q8.mono b7.size)
  have s8 : k ≤ w8.heap.size := Nat.le_trans s7 q8.size
  have P8 := veil r8
  clear hw8 r8 q8 T7 R7 HB7 b7
  go_wp2_with fail
  refine (note_any w8 k k _ _ _ _ HB8.out (by simp) s8).mono ?_
  rintro e w9 ⟨rfl, ⟨x9, y9, hB9⟩, hf9⟩
  have T9 := veil (hf9.row T8.out)
  have R9 := veil (hf9.row R8.out)
  have P9 := veil (hf9.row P8.out)
  have b9 := b8.trans (hf9.1.mono s56)
  have s9 : k ≤ w9.heap.size := Nat.le_trans s8 hf9.1.size
  have HB9 := veil hB9
  clear hB9 hf9 HB8 T8 R8 P8 b8 s8
  go_wp2_with fail
  refine (note_any w9 k k _ _ _ _ HB9.out (by simp) s9).mono ?_
  rintro e w10 ⟨rfl, ⟨x10, y10, hB10⟩, hf10⟩
  have T10 := veil (hf10.row T9.out)
  have R10 := veil (hf10.row R9.out)
  have P10 := veil (hf10.row P9.out)
  have b10 := b9.trans (hf10.1.mono s56)
  have hA : Hid (Calls Try.prog 20 #[.pointer (some ⟨k, 0, none⟩)] w10 fun e w' => e = .returned (.bool true) ∧ Below w.heap.size w w') := by
    have hle' := hle.out
    have hl' := HL.out
    refine apart_any w.heap.size w w10 k k _ hB10 (by simp) b10 b10.size ?_ ?_ ?_
    · intro i L hi
      match i with
      | 0 => simp at hi; subst hi; exact ⟨Nat.le_refl _, by simp; omega, fun _ => ⟨_, _, _, rfl, R10.out, by simp [bv_length, hle']⟩⟩
      | 1 => simp at hi; subst hi; exact ⟨Nat.le_refl _, by simp; omega, fun _ => ⟨_, _, _, rfl, P10.out, by simp [bv_length, hle']⟩⟩
      | 2 => simp at hi; subst hi; exact ⟨by simp, by simp; omega, fun _ => ⟨_, _, _, rfl, T10.out, by simp [bv_length, hl']⟩⟩
      | i + 3 => simp at hi
    · intro i j L M hi hj hij b o o' h1 h2
      exfalso
      have hd : ∀ (i : Nat) L, ([] ++ [(⟨some ⟨w1.heap.size, 0, none⟩, m + wd many, m + wd many, x7, y7⟩ : Leaf)] ++ [⟨some ⟨w7.heap.size, 0, none⟩, m + wd many, m + wd many, x9, y9⟩] ++ [⟨some ⟨w.heap.size, 0, none⟩, m, m + 4, x10, y10⟩])[i]? = some L →
          (i = 0 ∧ L.A = some ⟨w1.heap.size, 0, none⟩) ∨ (i = 1 ∧ L.A = some ⟨w7.heap.size, 0, none⟩) ∨ (i = 2 ∧ L.A = some ⟨w.heap.size, 0, none⟩) := by
        intro i L hi
        match i with
        | 0 => simp at hi; subst hi; simp
        | 1 => simp at hi; subst hi; simp
        | 2 => simp at hi; subst hi; simp
        | i + 3 => simp at hi
      rcases hd i L hi with ⟨e1, e2⟩ | ⟨e1, e2⟩ | ⟨e1, e2⟩ <;> rcases hd j M hj with ⟨e3, e4⟩ | ⟨e3, e4⟩ | ⟨e3, e4⟩ <;> (rw [e2] at h1; rw [e4] at h2; injection h1 with h1; injection h2 with h2; injection h1 with h1; injection h2 with h2; omega)
    · intro i L a hi ha
      match i with
      | 0 => simp at hi; subst hi; simp at ha; subst ha; simp; omega
      | 1 => simp at hi; subst hi; simp at ha; subst ha; simp; omega
      | 2 => simp at hi; subst hi; simp at ha; subst ha; simp
      | i + 3 => simp at hi
  clear hB10 hf10 HB9 T9 R9 P9 b9 s9 T10 R10 P10
  go_wp2_with fail
  refine (hA.out).mono ?_
  rintro e w11 ⟨rfl, b11⟩
  go_wp2_with fail
  refine (lives_true _).mono ?_
  rintro e w12 ⟨rfl, hw12⟩
  go_wp2_with fail
  go_ret
  exact ⟨rfl, b11.trans (hw12.mono b11.size)⟩

/-- more than are gone through -/
theorem walk_more (A : Option Addr) (m c : Nat) (n many : Int) (w : World) (h : 5000 < m) :
    Calls Try.prog 4 #[.slice A m c, .int .u64 n, .int .i64 many] w fun e w' => e = .returned (.bool true) ∧ Below w.heap.size w w' := by
  go_enter Try.func4, Try.ntmps4
  go_wp2_with fail
  refine (lives_true _).mono ?_
  rintro e w8 ⟨rfl, hw8⟩
  go_wp2_with fail
  go_ret
  exact ⟨rfl, hw8⟩

theorem own : ownKnob Try.prog.godebug = none := by kernel_rfl
theorem readable : ∀ t ∈ Try.f4.params.toList, Try.prog.readableRec t = true ∧ t < Try.prog.types.size := by
  rw [Try.params4]
  intro t ht
  simp at ht
  rcases ht with rfl | rfl | rfl
  · exact ⟨by kernel_rfl, of_decide_eq_true (by kernel_rfl)⟩
  · exact ⟨by kernel_rfl, of_decide_eq_true (by kernel_rfl)⟩
  · exact ⟨by kernel_rfl, of_decide_eq_true (by kernel_rfl)⟩

set_option maxRecDepth 100000 in
theorem lifted (os : Os) (started : os.Started) (H : Type) (enc : TypeId × Value → H) :
    ReturnsInHanded {} Try.checked os 4 .any (Rows.octetsPutSpec.pre6 enc Try.prog Try.f4 Rows.octetsPutRow.domain false) (Rows.octetsPutSpec.post enc Try.prog Try.f4 false true false false) := by
  refine returnsInHanded_of_change (C := Try.checked) own started (by kernel_rfl) Try.func4
    (ChangeSpec.witness6 (enc := enc) (C := Try.checked) false ⟨#[], #[.slice none 0 0, .int .u64 0, .int .i64 0], []⟩ 8 (by kernel_rfl) (by kernel_rfl) (by kernel_rfl) (by kernel_rfl)) ?_
  intro W base args ds gs before hval0 hW _ _
  have hval : ∀ (j : Nat) t v, Try.f4.params[j]? = some t → args[j]? = some v → Value.okWide Try.prog W .any base t v := hval0
  have hW' := hW
  obtain ⟨p, q, hA0, hV, rfl, _, _⟩ := hW
  have hA : DataW.TrodAll enc Try.prog W 0 (fun _ => true) true Try.f4.params.toList args.toList ds p := hA0
  rw [Try.params4] at hA hval
  obtain ⟨v0, vs0, d0, ds0, p0, q0, hargs, rfl, rfl, h0, r0⟩ := trodAll_cons hA
  obtain ⟨v1, vs1, d1, ds1, p1, q1, rfl, rfl, rfl, h1, r1⟩ := trodAll_cons r0
  obtain ⟨v2, vs2, d2, ds2, p2, q2, rfl, rfl, rfl, h2, r2⟩ := trodAll_cons r1
  obtain ⟨rfl, rfl, rfl⟩ := trodAll_nil r2
  obtain rfl : args = #[v0, v1, v2] := by cases args; simp_all
  obtain ⟨rfl, rfl⟩ := trodVars_none hV
  obtain ⟨A, m, c, zs, rfl, hS, hz, hY⟩ := open_bytes (hval 0 22 v0 rfl rfl) h0
  obtain ⟨a1, rfl, rfl, rfl, w1⟩ := open_int Try.underlying44 (hval 1 44 v1 rfl rfl) h1
  obtain ⟨a2, rfl, rfl, rfl, w2⟩ := open_int Try.underlying3 (hval 2 3 v2 rfl rfl) h2
  have hw : Calls Try.prog 4 #[.slice A m c, .int .u64 a1, .int .i64 a2] W fun e w' => e = .returned (.bool true) ∧ Below W.heap.size W w' := by
    by_cases hs : m ≤ 5000
    · exact walk A m c zs a1 a2 W hz hs hS (u64_of w1)
    · exact walk_more A m c a1 a2 W (by omega)
  refine hw.mono fun e W' ⟨he, hb⟩ => ?_
  subst he
  exact ⟨_, rfl, law_post (by kernel_rfl) rfl rfl Try.underlying4 readable hW' rfl hb⟩

/-- OctetsPut, as given -/
theorem holds : Rows.OctetsPutSaid :=
  OpenClaim.holds_of_wide 4 Try.f4 rfl rfl rfl rfl rfl rfl rfl ⟨rfl, rfl, rfl, rfl, rfl⟩ rfl rfl rfl rfl rfl (by kernel_rfl) Try.func4 (by kernel_rfl)
    (of_decide_eq_true (by kernel_rfl)) (by unfold Func.isWrapper; first | (rw [if_pos (by decide +kernel)]; kernel_rfl) | (rw [if_neg (by decide +kernel)]; exact ⟨rfl, rfl⟩))
    (fun os started H enc _ => lifted os started H enc)

#print axioms holds
end Go.Proofs.Ytddmjenhpbbocaa.octetsPut
