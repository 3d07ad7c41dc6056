/-
  TextsGet: whatever text it is, its address, or that it is none, is the chapter's: the law returns true for every input, and its argument reads as before; the library's tables are tied to the program's text.
  Conditions: none.
-/
import Derived.Test.YtfaaogidbpfelaaDoorTxtO
import Derived.Test.YtfaaogidbpfelaaDoorTie
import Derived.Test.YtfaaogidbpfelaaDoorCards
import Derived.SevenTiedAt
import Derived.ChangeMaps5
namespace Go.Proofs.YtfaaogidbpfelaaDoor.textsGet
open Go.ChangeShapes Go.WideShapes Go.ChangeAt Go.ChangeMaps Go.RowKit Go.Proofs.YtfaaogidbpfelaaDoor.Tx Go.Proofs.YtfaaogidbpfelaaDoor.Ad

set_option maxRecDepth 100000 in
theorem open_str {H : Type} {enc : TypeId × Value → H} {W : World} {base : Nat} {sp : Nat → Bool} {held : Bool} {v : Value} {d : DataW H} {p : List MemPlace} {r : Reach} {b0 : Nat} (hv : Value.okWide Tryd.prog W r b0 9 v) (h : DataW.Trod enc Tryd.prog W base sp held 9 v d p) : ∃ x : ByteArray, v = .string x := by
  obtain ⟨x, hx, _⟩ := Go.ChangeMaps.open_string (P := Tryd.prog) (t := 9) Tryd.underlying9 hv h
  exact ⟨x, hx⟩
/-- what Get answers, by value -/
theorem gres_pair (s : Str) : ∃ (xs : List Int) (e : Int), xs.length = 16 ∧ gres (get s) = .tuple #[av xs, .int .i64 e] := by
  cases h : get s with
  | none => exact ⟨nil16, 4, rfl, rfl⟩
  | some gs => exact ⟨bys gs, 0, by rw [bys_len, (get_len h).1], rfl⟩

set_option maxRecDepth 100000 in
set_option maxHeartbeats 4000000 in
theorem walk (s : Str) (w : World) (ht : Tw w) : Calls Tryd.prog 4 #[.string (bs s)] w fun e w' => e = .returned (.bool true) ∧ Below w.heap.size w w' := by
  have hsz := bs_size s
  by_cases hl : 1000 < s.length
  · have hl' : (1000 : Int) < (s.length : Int) := by omega
    have K := veil (lives_true w ht)
    generalize s.length = n at *
    clear ht hl
    go_enter Tryd.func4, Tryd.ntmps4
    go_wp2_with fail
    refine (K.out).mono ?_
    rintro e w1 ⟨rfl, q⟩
    have Q := veil q
    clear q
    go_wp2_with fail
    go_ret
    exact ⟨rfl, Q.out⟩
  · have hl' : ¬ (1000 : Int) < (s.length : Int) := by omega
    obtain ⟨xs, er, hx, hg⟩ := gres_pair s
    have K1 : Hid (∀ v, Tw v → Calls Tryd.prog 11 #[.string (bs s)] v fun e w' => e = .returned (.tuple #[av xs, .int .i64 er]) ∧ Below v.heap.size v w') := fun v h => by
      have := get_any s v (by omega) h.mx
      rwa [hg] at this
    have K2 : Hid (∀ v, Calls Tryd.prog 12 #[.string (bs s)] v fun e w' => e = .returned (.tuple #[av xs, .int .i64 er]) ∧ Below v.heap.size v w') := fun v => by
      have := refGet_any s v (by omega)
      rwa [hg] at this
    have E := fun u => eql_any u hx hx (z := true) (by simp)
    have HX := veil hx
    have T0 := veil ht
    obtain ⟨Z, hZ⟩ : ∃ Z : Array Value, Z = #[.int .u8 0, .int .u8 0, .int .u8 0, .int .u8 0, .int .u8 0, .int .u8 0, .int .u8 0, .int .u8 0, .int .u8 0, .int .u8 0, .int .u8 0, .int .u8 0, .int .u8 0, .int .u8 0, .int .u8 0, .int .u8 0] := ⟨_, rfl⟩
    have hZs : Z.size = 16 := by rw [hZ]; rfl
    have HZS := veil hZs
    have HZ := veil hZ
    generalize s.length = n at *
    clear ht hl hx hg hZs
    go_enter Tryd.func4, Tryd.ntmps4
    go_wp2_with fail
    refine (K1.out _ T0.out).mono ?_
    rintro e w1 ⟨rfl, q⟩
    have q3 := below_new w1 (.cells Z 23)
    have r3 := row_new (w := w1) (g := w1.heap.size) (cs := Z) (t := 23) rfl
    have T1 := veil (store_row r3 HZS.out HX.out)
    have b4 := below_setRow q3 w1.heap.size (bv xs).toArray (Nat.le_refl _)
    have R4 := veil (r3.setRow (bv xs).toArray)
    have B4 := veil (q.trans (b4.mono q.size))
    have T4 := veil ((T0.out.keep q).keep b4)
    obtain ⟨w4, hw4⟩ : ∃ w4, (w1.alloc (.cells Z 23)).setRow w1.heap.size (bv xs).toArray = w4 := ⟨_, rfl⟩
    rw [hw4, HZ.out] at T1
    rw [hw4] at R4 B4 T4
    clear q q3 r3 b4 hw4 K1 T0
    generalize hgA : w1.heap.size = gA at T1 R4
    go_wp2_with (first
      | (rw [hgA]; refine wpList_store_of rfl _ _ rfl rfl rfl T1.out ?_)
      | (refine wpList_store_of rfl _ _ rfl rfl rfl T1.out ?_))
    clear T1
    refine (K2.out _).mono ?_
    rintro e w5 ⟨rfl, q⟩
    have R5 := R4.out.keep q
    have q3 := below_new w5 (.cells Z 23)
    have r3 := row_new (w := w5) (g := w5.heap.size) (cs := Z) (t := 23) rfl
    have T1 := veil (store_row r3 HZS.out HX.out)
    have b4 := below_setRow q3 w5.heap.size (bv xs).toArray (Nat.le_refl _)
    have L1 := veil (load_rng (rng_row (R5.keep b4)) HX.out)
    have L2 := veil (load_rng (rng_row (r3.setRow (bv xs).toArray)) HX.out)
    have B6 := veil ((B4.out.trans (q.mono B4.out.size)).trans (b4.mono (B4.out.trans (q.mono B4.out.size)).size))
    have T6 := veil ((T4.out.keep q).keep b4)
    obtain ⟨w6, hw6⟩ : ∃ w6, (w5.alloc (.cells Z 23)).setRow w5.heap.size (bv xs).toArray = w6 := ⟨_, rfl⟩
    rw [hw6, HZ.out] at T1
    rw [hw6] at L1 L2 B6 T6
    clear q q3 r3 b4 hw6 K2 R4 B4 T4 R5
    go_wp2_with (first
      | (refine wpList_store_of rfl _ _ rfl rfl rfl T1.out ?_)
      | (refine wpList_load_of rfl _ rfl rfl L1.out ?_)
      | (refine wpList_load_of rfl _ rfl rfl L2.out ?_))
    refine (lives_true _ T6.out).mono ?_
    rintro e w7 ⟨rfl, q⟩
    have B7 := veil (B6.out.trans (q.mono B6.out.size))
    clear q
    go_wp2_with fail
    go_ret
    exact ⟨rfl, B7.out⟩

theorem own : ownKnob Tryd.prog.godebug = none := by kernel_rfl
theorem readable : ∀ t ∈ Tryd.f4.params.toList, Tryd.prog.readableRec t = true ∧ t < Tryd.prog.types.size := by
  rw [Tryd.params4]
  intro t ht
  simp at ht
  subst ht
  exact ⟨by kernel_rfl, of_decide_eq_true (by kernel_rfl)⟩

set_option maxRecDepth 100000 in
theorem lifted (os : Os) (started : os.Started) (H : Type) (enc : TypeId × Value → H) :
    ReturnsInHanded {} Tryd.checked os 4 .any (fun w args => (Rows.textsGetSpec.pre enc Tryd.prog Tryd.f4 [] false w args ∧ laidMetH Tryd.prog laid3 w) ∧ sizedMet enc Tryd.prog Tryd.f4 (OpenSpec.ofChange Rows.textsGetSpec) false w args)
      (Rows.textsGetSpec.post enc Tryd.prog Tryd.f4 false true false false) := by
  refine returns_shaped (C := Tryd.checked) (X := fun w _ => laidMetH Tryd.prog laid3 w) (fun _ _ _ hh h => h.of_heap hh) own started (by kernel_rfl) Tryd.func4
    (ChangeSpec.witness_shaped (enc := enc) (C := Tryd.checked) (os := os) (X := fun w _ => laidMetH Tryd.prog laid3 w) false (World.doorLaid Tryd.prog 2000 os) #[.string ⟨#[]⟩] 8 rfl (World.shaped_of_RefB (by kernel_rfl) (by kernel_rfl)) (by kernel_rfl) (by kernel_rfl) (by kernel_rfl) (door_met os _)) ?_
  intro W base args ds gs before hval0 hW hL hSh
  have hval : ∀ (j : Nat) t v, Tryd.f4.params[j]? = some t → args[j]? = some v → Value.okWide Tryd.prog W .any base t v := hval0
  have hW' := hW
  obtain ⟨p, q, hA0, hV, rfl, _, _⟩ := hW
  have hA : DataW.TrodAll enc Tryd.prog W 0 (fun _ => true) true Tryd.f4.params.toList args.toList ds p := hA0
  rw [Tryd.params4] at hA hval
  obtain ⟨v0, vs0, d0, ds0, p0, q0, hargs, rfl, rfl, h0, r0⟩ := trodAll_cons hA
  obtain ⟨rfl, rfl, rfl⟩ := trodAll_nil r0
  obtain rfl : args = #[v0] := by cases args; simp_all
  obtain ⟨rfl, rfl⟩ := trodVars_none hV
  have hk := tw_of hL hSh
  obtain ⟨x0, rfl⟩ := open_str (hval 0 _ _ rfl rfl) h0
  obtain ⟨s, rfl⟩ : ∃ s, x0 = bs s := ⟨_, bs_of x0⟩
  have hw : Calls Tryd.prog 4 #[.string (bs s)] W fun e w' => e = .returned (.bool true) ∧ Below W.heap.size W w' := by
    exact walk s W hk
  refine hw.mono fun e W' ⟨he, hb⟩ => ?_
  subst he
  exact ⟨_, rfl, law_post (by kernel_rfl) rfl rfl Tryd.underlying4 readable hW' rfl hb⟩

/-- TextsGet: the row, as given -/
theorem row : Rows.TextsGetSaid :=
  OpenClaim.holds_of_wide 4 Tryd.f4 rfl rfl rfl rfl rfl rfl rfl ⟨rfl, rfl, rfl, rfl, rfl⟩ rfl rfl rfl rfl rfl (by kernel_rfl) Tryd.func4 (by kernel_rfl)
    (of_decide_eq_true (by kernel_rfl)) (by unfold Func.isWrapper; first | (rw [if_pos (by decide +kernel)]; kernel_rfl) | (rw [if_neg (by decide +kernel)]; exact ⟨rfl, rfl⟩))
    (fun os started H enc _ => lifted os started H enc)

/-- TextsGet: the tied card, as given -/
theorem holds : Rows.TextsGetCardSaid :=
  Claim7.holds_tied_plain_at .later [] [.data, .data, .data] true Rows.textsGetCard.stood.harness false
    row (fun _ h => by cases h) (by kernel_rfl) (fun _ h => by cases h) textsGet_row_tie rfl ⟨rfl, rfl⟩ (by kernel_rfl) rfl
    (fun f fn hf hfn => by
      obtain rfl : f = 4 := Option.some.inj ((show Tryd.prog.funcNamed "sojourner/sojournerlaw07.TextsGet" = some 4 by kernel_rfl).symm.trans hf) |>.symm
      obtain rfl : fn = Tryd.f4 := (Option.some.inj (Tryd.func4.symm.trans hfn)).symm
      exact ⟨by kernel_rfl, fun j t ht => by
        rw [Tryd.params4] at ht
        have hm : t ∈ [9] := by simpa using Array.mem_of_getElem? ht
        have hall : ([9].all fun u => !Tryd.prog.wantsStandIn u) = true := by kernel_rfl
        exact (show Tryd.prog.wantsStandIn t = false by simpa using List.all_eq_true.1 hall t hm)⟩)
    (by kernel_rfl)

#print axioms holds
end Go.Proofs.YtfaaogidbpfelaaDoor.textsGet
