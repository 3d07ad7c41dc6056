/-
  SumsOver: whatever two ends, protocol and bytes there are, their checksum, and whether that is 0, is the chapter's; the bytes stay: the law returns true for every input, and its arguments read as before.
  Conditions: none.
-/
import Derived.Test.YtoadligcfecpfaaSumEn
import Derived.Test.YtoadligcfecpfaaTwin
namespace Go.Proofs.Ytoadligcfecpfaa.sumsOver
open Go.ChangeShapes Go.WideShapes Go.ChangeAt Go.RowKit

set_option maxHeartbeats 2000000 in
theorem walk (s d : List Int) (nx : Int) (B : Option Addr) (m c : Nat) (zs : List Int) (w : World) (hs : s.length = 16) (hd : d.length = 16) (bs : Byt s) (bd : Byt d) (hnx : 0 ≤ nx ∧ nx ≤ 255) (hl : zs.length = m) (hm : m ≤ 5000) (hS : Slc w (.slice B m c) zs) (hb : Byt zs) :
    Calls Try.prog 4 #[.agg (endsV s d nx).toArray, .slice B m c] w fun e w' => e = .returned (.bool true) ∧ Below w.heap.size w w' := by
  have HS := veil hs
  have HD := veil hd
  have BS := veil bs
  have BD := veil bd
  have HN := veil hnx
  have HL := veil hl
  have S1 := veil hS
  have Y1 := veil hb
  clear hs hd bs bd hnx hl hS hb
  go_enter Try.func4, Try.ntmps4
  go_wp2_with fail
  have e0 := row_new (w := w) (cs := (endsV s d nx).toArray) (t := 33) rfl
  have b0 := below_new w (.cells (endsV s d nx).toArray 33)
  have z0 : w.heap.size < (w.alloc (.cells (endsV s d nx).toArray 33)).heap.size := e0.lt
  generalize w.alloc (.cells (endsV s d nx).toArray 33) = w0 at *
  refine (twinBytes_any B m c zs _ HL.out (by omega) (slc_rd (S1.out.keep b0)).1).mono ?_
  rintro e w1 ⟨rfl, hw1⟩
  have t1 : TwinAt w1 w0.heap.size zs := by subst hw1; exact row_new rfl
  have q1 : Below w0.heap.size w0 w1 := by subst hw1; exact below_new _ _
  have b1 := b0.trans (q1.mono b0.size)
  have E1 := veil (e0.keep q1)
  have n1 := cell_next E1.out HS.out HD.out
  have T1 := veil t1
  clear hw1 t1 q1 b0 e0
  go_wp2_with (first
    | (refine wpList_load_of rfl _ rfl rfl (load_src E1.out HS.out) ?_)
    | (refine wpList_load_of rfl _ rfl rfl (load_dst E1.out HS.out HD.out) ?_))
  refine (refOver_any s d nx B m c zs _ HS.out HD.out BS.out BD.out HN.out HL.out (by omega) (S1.out.keep b1) Y1.out).mono ?_
  rintro e w2 ⟨rfl, q2⟩
  have b2 := b1.trans (q2.mono b1.size)
  have E2 := veil (E1.out.keep q2)
  have n2 := cell_next E2.out HS.out HD.out
  have T2 := veil (T1.out.keep q2)
  have K2 := veil (over_any s d nx _ m (m + 4) zs w2 HS.out HD.out BS.out BD.out HN.out HL.out (by omega) (.inr ⟨_, m + 4, by rw [HL.out], TwinAt.rd T2.out, by rw [HL.out]; omega⟩) Y1.out)
  obtain ⟨v, hv⟩ : ∃ v, ck (ph s d m nx ++ zs) = v := ⟨_, rfl⟩
  rw [hv] at K2 ⊢
  have HV := veil hv
  clear q2 E1 n1 T1 b1 hv
  go_wp2_with (first
    | (refine wpList_load_of rfl _ rfl rfl (load_src E2.out HS.out) ?_)
    | (refine wpList_load_of rfl _ rfl rfl (load_dst E2.out HS.out HD.out) ?_))
  refine (K2.out).mono ?_
  rintro e w3 ⟨rfl, q3⟩
  have b3 := b2.trans (q3.mono b2.size)
  have E3 := veil (E2.out.keep q3)
  have n3 := cell_next E3.out HS.out HD.out
  have T3 := veil (T2.out.keep q3)
  have K3 := veil (good_any s d nx _ m (m + 4) zs w3 HS.out HD.out BS.out BD.out HN.out HL.out (by omega) (.inr ⟨_, m + 4, by rw [HL.out], TwinAt.rd T3.out, by rw [HL.out]; omega⟩) Y1.out)
  rw [HV.out] at K3
  clear q3 E2 n2 T2 b2 K2
  go_wp2_with (first
    | (refine wpList_load_of rfl _ rfl rfl (load_src E3.out HS.out) ?_)
    | (refine wpList_load_of rfl _ rfl rfl (load_dst E3.out HS.out HD.out) ?_))
  refine (K3.out).mono ?_
  rintro e w4 ⟨rfl, q4⟩
  have b4 := b3.trans (q4.mono b3.size)
  have T4 := veil (T3.out.keep q4)
  clear q4 E3 n3 T3 b3 K3
  go_wp2_with fail
  refine (leftBytes_true _ _ m (m + 4) c zs _ HL.out (by omega) T4.out (slc_rd (S1.out.keep b4)).1 (by omega)).mono ?_
  rintro e w5 ⟨rfl, hw5⟩
  have b5 := below_still b4 hw5
  clear hw5 b4 T4
  go_wp2_with fail
  refine (lives_true _).mono ?_
  rintro e w6 ⟨rfl, q6⟩
  have b6 := b5.trans (q6.mono b5.size)
  go_wp2_with fail
  go_ret
  exact ⟨rfl, b6⟩

/-- more than are gone through -/
theorem walk_more (s d : List Int) (nx : Int) (B : Option Addr) (m c : Nat) (w : World) (h : 5000 < m) :
    Calls Try.prog 4 #[.agg (endsV s d nx).toArray, .slice B m c] w fun e w' => e = .returned (.bool true) ∧ Below w.heap.size w w' := by
  go_enter Try.func4, Try.ntmps4
  go_wp2_with fail
  have b0 := below_new w (.cells (endsV s d nx).toArray 33)
  refine (lives_true _).mono ?_
  rintro e w6 ⟨rfl, q6⟩
  have b6 := b0.trans (q6.mono b0.size)
  clear q6 b0
  go_wp2_with fail
  go_ret
  exact ⟨rfl, b6⟩

theorem own : ownKnob Try.prog.godebug = none := by kernel_rfl
theorem readable : ∀ t ∈ Try.f4.params.toList, Try.prog.readableRec t = true ∧ t < Try.prog.types.size := by
  rw [Try.params4]
  intro t ht
  simp at ht
  rcases ht with rfl | rfl
  · exact ⟨by kernel_rfl, of_decide_eq_true (by kernel_rfl)⟩
  · exact ⟨by kernel_rfl, of_decide_eq_true (by kernel_rfl)⟩

set_option maxRecDepth 100000 in
theorem lifted (os : Os) (started : os.Started) (H : Type) (enc : TypeId × Value → H) :
    ReturnsInHanded {} Try.checked os 4 .any (Rows.sumsOverSpec.pre6 enc Try.prog Try.f4 Rows.sumsOverRow.domain false) (Rows.sumsOverSpec.post enc Try.prog Try.f4 false true false false) := by
  refine returnsInHanded_of_change (C := Try.checked) own started (by kernel_rfl) Try.func4
    (ChangeSpec.witness6 (enc := enc) (C := Try.checked) false ⟨#[], #[.agg #[.int .u8 0, .int .u8 0, .int .u8 0, .int .u8 0, .int .u8 0, .int .u8 0, .int .u8 0, .int .u8 0, .int .u8 0, .int .u8 0, .int .u8 0, .int .u8 0, .int .u8 0, .int .u8 0, .int .u8 0, .int .u8 0, .int .u8 0, .int .u8 0, .int .u8 0, .int .u8 0, .int .u8 0, .int .u8 0, .int .u8 0, .int .u8 0, .int .u8 0, .int .u8 0, .int .u8 0, .int .u8 0, .int .u8 0, .int .u8 0, .int .u8 0, .int .u8 0, .int .u8 0], .slice none 0 0], []⟩ 8 (by kernel_rfl) (by kernel_rfl) (by kernel_rfl) (by kernel_rfl)) ?_
  intro W base args ds gs before hval0 hW _ _
  have hval : ∀ (j : Nat) t v, Try.f4.params[j]? = some t → args[j]? = some v → Value.okWide Try.prog W .any base t v := hval0
  have hW' := hW
  obtain ⟨p, q, hA0, hV, rfl, _, _⟩ := hW
  have hA : DataW.TrodAll enc Try.prog W 0 (fun _ => true) true Try.f4.params.toList args.toList ds p := hA0
  rw [Try.params4] at hA hval
  obtain ⟨v0, vs0, d0, ds0, p0, q0, hargs, rfl, rfl, h0, r0⟩ := trodAll_cons hA
  obtain ⟨v1, vs1, d1, ds1, p1, q1, rfl, rfl, rfl, h1, r1⟩ := trodAll_cons r0
  obtain ⟨rfl, rfl, rfl⟩ := trodAll_nil r1
  obtain rfl : args = #[v0, v1] := by cases args; simp_all
  obtain ⟨rfl, rfl⟩ := trodVars_none hV
  obtain ⟨xs, ys, nx, rfl, hx, hy, bx, by', hn1, hn2⟩ := open_ends (hval 0 33 v0 rfl rfl) h0
  obtain ⟨B, m, c, zs, rfl, hS, hz, hY⟩ := open_bytes (hval 1 22 v1 rfl rfl) h1
  have hw : Calls Try.prog 4 #[.agg (endsV xs ys nx).toArray, .slice B m c] W fun e w' => e = .returned (.bool true) ∧ Below W.heap.size W w' := by
    by_cases hs : m ≤ 5000
    · exact walk xs ys nx B m c zs W hx hy bx by' ⟨hn1, hn2⟩ hz hs hS hY
    · exact walk_more xs ys nx B m c W (by omega)
  refine hw.mono fun e W' ⟨he, hb⟩ => ?_
  subst he
  exact ⟨_, rfl, law_post (by kernel_rfl) rfl rfl Try.underlying4 readable hW' rfl hb⟩

/-- SumsOver, as given -/
theorem holds : Rows.SumsOverSaid :=
  OpenClaim.holds_of_wide 4 Try.f4 rfl rfl rfl rfl rfl rfl rfl ⟨rfl, rfl, rfl, rfl, rfl⟩ rfl rfl rfl rfl rfl (by kernel_rfl) Try.func4 (by kernel_rfl)
    (of_decide_eq_true (by kernel_rfl)) (by unfold Func.isWrapper; first | (rw [if_pos (by decide +kernel)]; kernel_rfl) | (rw [if_neg (by decide +kernel)]; exact ⟨rfl, rfl⟩))
    (fun os started H enc _ => lifted os started H enc)

#print axioms holds
end Go.Proofs.Ytoadligcfecpfaa.sumsOver
