/-
  OptionsGet: whatever bytes there are, their options, or that they are none, is the chapter's; they stay, and nothing is shared: the law returns true for every input, and its arguments read as before; the tables that the row lists are tied to the program's text.
  Conditions: none.
-/
import Derived.Test.YtdebifkefpclaaaDoorOpoW
import Derived.Test.YtdebifkefpclaaaDoorOpoR
import Derived.Test.YtdebifkefpclaaaDoorOpoB
namespace Go.Proofs.YtdebifkefpclaaaDoor.optionsGet
set_option maxRecDepth 100000
open Go.ChangeShapes Go.WideShapes Go.ChangeAt Go.RowKit Go.Proofs.YtdebifkefpclaaaDoor.Oz Ops

/-- which options, and which error -/
def Which (R : Option (List Sp)) (ds : List Sp) (er : Int) : Prop := (R = some ds ∧ er = 0) ∨ (R = none ∧ ds = [] ∧ er = 4)
def CodeO (w : World) (zs : List Int) (R : Option (List Sp)) (e : Ending) (w' : World) : Prop :=
  ∃ A b m ds er, e = .returned (.tuple #[.slice A m m, .int .i64 er]) ∧ m = ds.length ∧ Which R ds er ∧ (ds = [] ∨ (w.heap.size ≤ b ∧ Row w' b 5 (bv zs).toArray)) ∧ InRow w' A (els b ds) ∧ Below w.heap.size w w'
def TextO (w : World) (zs : List Int) (R : Option (List Sp)) (e : Ending) (w' : World) : Prop :=
  ∃ A c m ds er, e = .returned (.tuple #[.slice A m c, .int .i64 er]) ∧ m = ds.length ∧ Which R ds er ∧ Reads w' A (plain zs ds) ∧ Below w.heap.size w w'
theorem code_of {w : World} {zs : List Int} {R : Option (List Sp)} {e : Ending} {w' : World} (h : GotO w zs R e w') : CodeO w zs R e w' := by
  cases R with
  | none =>
    obtain ⟨he, hb⟩ := h
    exact ⟨none, 0, 0, [], 4, he, rfl, .inr ⟨rfl, rfl, rfl⟩, .inl rfl, .inl rfl, hb⟩
  | some ds =>
    obtain ⟨A, b, base, cap, L, he, hb, M⟩ := h
    exact ⟨A, b, ds.length, ds, 0, he, rfl, .inl ⟨rfl, rfl⟩, .inr ⟨M.lay.own _ hb, M.lay.at hb⟩, M.inRow, M.lay.below⟩
theorem text_of {w : World} {zs : List Int} {R : Option (List Sp)} {e : Ending} {w' : World} (h : RefO w zs R e w') : TextO w zs R e w' := by
  cases R with
  | none =>
    obtain ⟨he, hb⟩ := h
    exact ⟨none, 0, 0, [], 4, he, rfl, .inr ⟨rfl, rfl, rfl⟩, reads_nil _ _, hb⟩
  | some ds =>
    obtain ⟨A, c, base, l, he, M⟩ := h
    refine ⟨A, c, ds.length, ds, 0, he, rfl, .inl ⟨rfl, rfl⟩, M.many.inRow.reads M.len (fun i x o hx ho => ?_), M.many.lay.below⟩
    obtain ⟨h1, h2, _⟩ := M.each i x o hx ho
    exact ⟨h1, h2.slc⟩
theorem which_one {R : Option (List Sp)} {ds ds' : List Sp} {er er' : Int} (h : Which R ds er) (h' : Which R ds' er') : ds = ds' ∧ er = er' := by
  rcases h with ⟨h1, h2⟩ | ⟨h1, h2, h3⟩ <;> rcases h' with ⟨g1, g2⟩ | ⟨g1, g2, g3⟩
  · rw [h1] at g1; injection g1 with g1; exact ⟨g1, h2.trans g2.symm⟩
  · rw [h1] at g1; cases g1
  · rw [h1] at g1; cases g1
  · exact ⟨h2.trans g2.symm, h3.trans g3.symm⟩
theorem which_lie {zs : List Int} (hz : Byt zs) {ds : List Sp} {er : Int} (h : Which (goes zs 0 []) ds er) : Lie zs zs.length ds := by
  rcases h with ⟨h1, _⟩ | ⟨_, h2, _⟩
  · exact goes_lie hz _ 0 [] ds (Nat.le_refl _) (lie_nil zs) h1
  · subst h2
    exact ⟨fun x hx => by simp at hx, fun i j x y hx => by simp at hx, by simp⟩
theorem els_at {b : Nat} {ds : List Sp} {i : Nat} {x : El} (h : (els b ds)[i]? = some x) : ∃ s, ds[i]? = some s ∧ x = ⟨s.k, some ⟨b, s.o, none⟩, s.n, s.n⟩ := by
  unfold els at h
  rw [List.getElem?_map] at h
  cases hs : ds[i]? with
  | none => rw [hs] at h; cases h
  | some s =>
    rw [hs] at h
    simp at h
    exact ⟨s, rfl, h.symm⟩
/-- what the code tells reads as the options -/
theorem code_reads {w : World} {A : Option Addr} {b : Nat} {zs : List Int} {ds : List Sp} (hi : InRow w A (els b ds)) (hL : Lie zs zs.length ds) (hr : ds = [] ∨ Row w b 5 (bv zs).toArray) : Reads w A (plain zs ds) := by
  rcases hr with rfl | hr
  · exact reads_nil _ _
  refine hi.reads (by simp [els, plain]) (fun i x o hx ho => ?_)
  obtain ⟨s, hs, rfl⟩ := els_at hx
  unfold plain at ho
  rw [List.getElem?_map, hs] at ho
  simp at ho
  subst ho
  have h1 := hL.1 s (List.mem_of_getElem? hs)
  exact ⟨rfl, slc_part hr part_drop (len_drop (by omega)) (Nat.le_refl _)⟩
/-- all leaves lie apart -/
theorem leaves_fit {B : Nat} {w : World} {g b n : Nat} {px py : Int} {zs : List Int} {ds : List Sp} {Ms : List Leaf} (hl : zs.length = n) (h5 : n ≤ 5000) (hL : Lie zs zs.length ds) (hN : Notes (els b ds) Ms)
    (hg : Row w g 5 (bv (zs ++ List.replicate 4 199)).toArray) (hr : ds = [] ∨ (g < b ∧ Row w b 5 (bv zs).toArray)) (hB : B ≤ g) :
    (∀ (i : Nat) L, ([(⟨some ⟨g, 0, none⟩, n, n + 4, px, py⟩ : Leaf)] ++ Ms)[i]? = some L → Wide w L.A L.n L.c) ∧ (∀ (i j : Nat) L M, ([(⟨some ⟨g, 0, none⟩, n, n + 4, px, py⟩ : Leaf)] ++ Ms)[i]? = some L → ([(⟨some ⟨g, 0, none⟩, n, n + 4, px, py⟩ : Leaf)] ++ Ms)[j]? = some M → i ≠ j → Dis L M) ∧
      (∀ (i : Nat) L a, ([(⟨some ⟨g, 0, none⟩, n, n + 4, px, py⟩ : Leaf)] ++ Ms)[i]? = some L → L.A = some a → B ≤ a.block) := by
  have hm : ∀ (i : Nat) (L : Leaf), Ms[i]? = some L → ∃ s, ds[i]? = some s ∧ L.A = some ⟨b, s.o, none⟩ ∧ L.n = s.n ∧ L.c = s.n := fun i L hi => by
    have hil : i < (els b ds).length := by rw [← hN.1]; exact (List.getElem?_eq_some_iff.1 hi).1
    obtain ⟨M, h1, h2, h3, h4⟩ := hN.2 i _ (List.getElem?_eq_getElem hil)
    rw [hi] at h1
    injection h1 with h1
    subst h1
    obtain ⟨s, hs, e⟩ := els_at (List.getElem?_eq_getElem hil)
    rw [e] at h2 h3 h4
    exact ⟨s, hs, h2, h3, h4⟩
  have hne : ∀ (i : Nat) (s : Sp), ds[i]? = some s → g < b ∧ Row w b 5 (bv zs).toArray := fun i s hs => by
    rcases hr with rfl | h
    · simp at hs
    · exact h
  refine ⟨fun i L hi => ?_, fun i j L M hi hj hij => ?_, fun i L a hi ha => ?_⟩
  · match i, hi with
    | 0, hi =>
      simp at hi
      subst hi
      exact ⟨by simp, by simp; omega, fun _ => ⟨_, _, _, rfl, hg, by simp [bv_length, hl]⟩⟩
    | i + 1, hi =>
      obtain ⟨s, hs, e1, e2, e3⟩ := hm i L (by simpa using hi)
      have h1 := hL.1 s (List.mem_of_getElem? hs)
      rw [e1, e2, e3]
      exact ⟨Nat.le_refl _, by omega, fun _ => ⟨_, _, _, rfl, (hne i s hs).2, by simp [bv_length]; omega⟩⟩
  · intro b1 o1 o2 h3 h4
    match i, j, hi, hj with
    | 0, 0, _, _ => exact absurd rfl hij
    | 0, j + 1, hi, hj =>
      simp at hi
      subst hi
      obtain ⟨s, hs, e1, e2, e3⟩ := hm j M (by simpa using hj)
      have := (hne j s hs).1
      rw [e1] at h4
      simp at h3 h4
      omega
    | i + 1, 0, hi, hj =>
      simp at hj
      subst hj
      obtain ⟨s, hs, e1, e2, e3⟩ := hm i L (by simpa using hi)
      have := (hne i s hs).1
      rw [e1] at h3
      simp at h3 h4
      omega
    | i + 1, j + 1, hi, hj =>
      obtain ⟨s, hs, e1, e2, e3⟩ := hm i L (by simpa using hi)
      obtain ⟨t, ht, f1, f2, f3⟩ := hm j M (by simpa using hj)
      rw [e1] at h3
      rw [f1] at h4
      simp at h3 h4
      rw [e3, f3]
      rcases Nat.lt_or_gt_of_ne (fun e => hij (by omega) : i ≠ j) with h | h
      · have := hL.2.1 i j s t hs ht h
        omega
      · have := hL.2.1 j i t s ht hs h
        omega
  · match i, hi with
    | 0, hi =>
      simp at hi
      subst hi
      simp at ha
      subst ha
      exact hB
    | i + 1, hi =>
      obtain ⟨s, hs, e1, _, _⟩ := hm i L (by simpa using hi)
      have := (hne i s hs).1
      rw [e1] at ha
      injection ha with ha
      subst ha
      show B ≤ b
      omega

set_option linter.unusedSimpArgs false in
set_option maxHeartbeats 8000000 in
theorem walk_all (A : Option Addr) (n c : Nat) (zs : List Int) (w : World) (hs : Slc w (.slice A n c) zs) (hl : zs.length = n) (hz : Byt zs) (h5 : n ≤ 5000) (hm : Mx w) :
    Calls Tryd.prog 4 #[.slice A n c] w fun e w' => e = .returned (.bool true) ∧ Below w.heap.size w w' := by
  have K := veil (twinB A n c zs w hl (by omega) (slc_rd hs).1)
  have i3 : ¬ (5000 : Int) < (n : Int) := by omega
  have n16 : n ≤ 16000000 := by omega
  have HS := veil hs
  have HL := veil hl
  have HZ := veil hz
  have HM := veil hm
  clear hs hl hz hm
  go_enter Tryd.func4, Tryd.ntmps4
  go_wp2_with fail
  refine (K.out).mono ?_
  rintro e w1 ⟨g, hg, rfl, t1, q⟩
  have Y1 := (Lay.begin w).got q t1 hg
  have hw1 : Hid (g < w1.heap.size) := veil (Y1.lt mem0)
  have HG := veil hg
  have S1 : Slc w1 (.slice (some ⟨g, 0, none⟩) n (n + 4)) zs := .inr ⟨_, n + 4, by rw [HL.out], TwinAt.rd (Y1.at mem0), by rw [HL.out]; omega⟩
  have K1 := veil ((codeGet (some ⟨g, 0, none⟩) n (n + 4) zs w1 S1 HZ.out HL.out n16).mono fun _ _ h => code_of h)
  have VY := veil Y1
  clear q t1 Y1 K S1 hg
  go_wp2_with fail
  refine (K1.out).mono ?_
  rintro e w2 ⟨A2, b, m, ds, er, rfl, hmd, hW, hR, hI, q2⟩
  have Y2 := VY.out.keep q2
  have HLI := veil (which_lie HZ.out hW)
  have hr2 : Hid (ds = [] ∨ (g < b ∧ Row w2 b 5 (bv zs).toArray)) := veil (hR.imp id (fun h => ⟨by have := hw1.out; omega, h.2⟩))
  have K2 := veil ((refGet A n c zs w2 (HS.out.keep Y2.below) HZ.out HL.out n16).mono fun _ _ h => text_of h)
  have HI := veil hI
  have HW := veil hW
  have HMD := veil hmd
  have VY2 := veil Y2
  clear K1 VY hmd hW hR hI q2 Y2
  go_wp2_with fail
  refine (K2.out).mono ?_
  rintro e w3 ⟨A3, c3, m3, ds3, er3, rfl, hmd3, hW3, hR3, q3⟩
  obtain ⟨rfl, rfl⟩ := which_one HW.out hW3
  obtain rfl : m3 = m := hmd3.trans HMD.out.symm
  have Y3 := VY2.out.keep q3
  have hI3 := HI.out.keep q3
  have hr3 : Hid (ds = [] ∨ (g < b ∧ Row w3 b 5 (bv zs).toArray)) := veil (hr2.out.imp id (fun h => ⟨h.1, h.2.keep q3⟩))
  have SO := veil (sameOptions_true A2 A3 m3 m3 c3 (plain zs ds) w3 (by simp [plain]; exact HMD.out.symm) (code_reads hI3 HLI.out (hr3.out.imp id (fun h => h.2))) hR3 (by have := HLI.out.2.2; have := HMD.out; omega) (fun o ho => by
    simp only [plain, List.mem_map] at ho
    obtain ⟨s, _, rfl⟩ := ho
    simp only [List.length_take, List.length_drop]
    have := HL.out
    omega))
  have VI3 := veil hI3
  have VY3 := veil Y3
  clear K2 HW HI hr2 VY2 hmd3 hW3 hR3 q3 Y3 hI3
  go_wp2_with fail
  refine (SO.out).mono ?_
  rintro e w4 ⟨rfl, q4⟩
  have Y4 := VY3.out.keep q4
  have VI4 := veil (VI3.out.keep q4)
  have hr4 : Hid (ds = [] ∨ (g < b ∧ Row w4 b 5 (bv zs).toArray)) := veil (hr3.out.imp id (fun h => ⟨h.1, h.2.keep q4⟩))
  have KL := veil (leftBytes_true g A n (n + 4) c zs w4 HL.out n16 (Y4.at mem0) (slc_rd (HS.out.keep Y4.below)).1 (Nat.le_refl _))
  have VY4 := veil Y4
  clear SO VI3 hr3 VY3 Y4 q4
  go_wp2_with fail
  refine (KL.out).mono ?_
  rintro e w5 ⟨rfl, hst⟩
  have q5 : Below w4.heap.size w4 w5 := below_still (Below.refl _ _) hst
  have VY5 := veil (VY4.out.keep q5)
  have VI5 := veil (VI4.out.keep q5)
  have hr5 : Hid (ds = [] ∨ (g < b ∧ Row w5 b 5 (bv zs).toArray)) := veil (hr4.out.imp id (fun h => ⟨h.1, h.2.keep q5⟩))
  clear KL hst q5 VY4 VI4 hr4
  go_wp2_with fail
  have hB := book_new w5
  have qa := below_new w5 (.cells #[.slice none 0 0] 37)
  have VY6 := veil (VY5.out.keep qa)
  have VI6 := veil (VI5.out.keep qa)
  have s6 : w5.heap.size ≤ (w5.alloc (.cells #[.slice none 0 0] 37)).heap.size := by simp
  have s5 : w.heap.size ≤ w5.heap.size := VY5.out.size
  have hr6 : Hid (ds = [] ∨ (g < b ∧ Row (w5.alloc (.cells #[.slice none 0 0] 37)) b 5 (bv zs).toArray)) := veil (hr5.out.imp id (fun h => ⟨h.1, h.2.keep qa⟩))
  clear VY5 VI5 hr5 qa
  generalize w5.alloc (.cells #[.slice none 0 0] 37) = w6 at *
  generalize w5.heap.size = kb at *
  refine (note_any w6 kb kb [] _ _ _ hB (by simp) s6).mono ?_
  rintro e w7 ⟨rfl, ⟨x7, y7, hB7⟩, hf7⟩
  have VY7 := veil (show TwinAt w7 g zs from hf7.row (VY6.out.at mem0))
  have VB7 := veil (VY6.out.below.trans (hf7.1.mono s5))
  have VI7 := veil (VI6.out.bf hf7)
  have hr7 : Hid (ds = [] ∨ (g < b ∧ Row w7 b 5 (bv zs).toArray)) := veil (hr6.out.imp id (fun h => ⟨h.1, hf7.row h.2⟩))
  have s7 : kb ≤ w7.heap.size := Nat.le_trans s6 hf7.1.size
  have VBK := veil hB7
  clear hB hB7 hf7 VY6 VI6 hr6 s6
  have KN := veil (noteOptions w7 kb kb _ A2 m3 m3 (els b ds) VBK.out (by rw [els_len]; exact HMD.out.symm) VI7.out (by simp; have := HLI.out.2.2; have := HMD.out; omega) s7)
  go_wp2_with fail
  refine (KN.out).mono ?_
  rintro e w8 ⟨rfl, ⟨Ms, hN, hB8⟩, hf8⟩
  have hg8 : Row w8 g 5 (bv (zs ++ List.replicate 4 199)).toArray := hf8.row VY7.out
  have hr8 : ds = [] ∨ (g < b ∧ Row w8 b 5 (bv zs).toArray) := hr7.out.imp id (fun h => ⟨h.1, hf8.row h.2⟩)
  have b8 := VB7.out.trans (hf8.1.mono s5)
  obtain ⟨wide, dis, own⟩ := leaves_fit (B := w.heap.size) HL.out h5 HLI.out hN hg8 hr8 HG.out
  have hA : Hid (Calls Tryd.prog 21 #[.pointer (some ⟨kb, 0, none⟩)] w8 fun e w' => e = .returned (.bool true) ∧ Below w.heap.size w w') :=
    veil (apart_any w.heap.size w w8 kb kb _ hB8 (by simp; have := hN.1; rw [els_len] at this; have := HLI.out.2.2; omega) b8 b8.size wide dis own)
  clear KN hN hB8 hf8 hg8 hr8 b8 wide dis own VY7 VB7 VI7 hr7 VBK
  go_wp2_with fail
  refine (hA.out).mono ?_
  rintro e w9 ⟨rfl, b9⟩
  have KV := veil (lives_true w9 (HM.out.keep b9))
  clear hA
  go_wp2_with fail
  refine (KV.out).mono ?_
  rintro e w10 ⟨rfl, q⟩
  clear KV
  go_wp2_with fail
  go_ret
  exact ⟨rfl, b9.trans (q.mono b9.size)⟩

/-- more than are gone through -/
theorem walk_more (A : Option Addr) (n c : Nat) (w : World) (h : 5000 < n) (hm : Mx w) :
    Calls Tryd.prog 4 #[.slice A n c] w fun e w' => e = .returned (.bool true) ∧ Below w.heap.size w w' := by
  have i3 : (5000 : Int) < (n : Int) := by omega
  have KV := veil (lives_true w hm)
  clear hm
  go_enter Tryd.func4, Tryd.ntmps4
  go_wp2_with fail
  refine (KV.out).mono ?_
  rintro e w1 ⟨rfl, q⟩
  clear KV
  go_wp2_with fail
  go_ret
  exact ⟨rfl, q⟩

theorem own : ownKnob Tryd.prog.godebug = none := by kernel_rfl
theorem readable : ∀ t ∈ Tryd.f4.params.toList, Tryd.prog.readableRec t = true ∧ t < Tryd.prog.types.size := by
  rw [Tryd.params4]
  intro t ht
  simp at ht
  subst ht
  exact ⟨by kernel_rfl, of_decide_eq_true (by kernel_rfl)⟩

set_option maxRecDepth 100000 in
theorem lifted (os : Os) (started : os.Started) (H : Type) (enc : TypeId × Value → H) :
    ReturnsInHanded {} Tryd.checked os 4 .any (fun w args => (Rows.optionsGetSpec.pre enc Tryd.prog Tryd.f4 [] false w args ∧ laidMetH Tryd.prog laid2 w) ∧ sizedMet enc Tryd.prog Tryd.f4 (OpenSpec.ofChange Rows.optionsGetSpec) false w args)
      (Rows.optionsGetSpec.post enc Tryd.prog Tryd.f4 false true false false) := by
  refine returns_shaped (C := Tryd.checked) (X := fun w _ => laidMetH Tryd.prog laid2 w) (fun _ _ _ hh h => h.of_heap hh) own started (by kernel_rfl) Tryd.func4
    (ChangeSpec.witness_shaped (enc := enc) (C := Tryd.checked) (os := os) (X := fun w _ => laidMetH Tryd.prog laid2 w) false (World.laidAll Tryd.prog os laid2) #[.slice none 0 0] 8 (World.laidAll_os _ _ _) (World.shaped_of_ZipB (by kernel_rfl) (by kernel_rfl)) (by kernel_rfl) (by kernel_rfl) (by kernel_rfl) (door_met os _)) ?_
  intro W base args ds gs before hval0 hW hL hSh
  have hval : ∀ (j : Nat) t v, Tryd.f4.params[j]? = some t → args[j]? = some v → Value.okWide Tryd.prog W .any base t v := hval0
  have hW' := hW
  obtain ⟨p, q, hA0, hV, rfl, _, _⟩ := hW
  have hA : DataW.TrodAll enc Tryd.prog W 0 (fun _ => true) true Tryd.f4.params.toList args.toList ds p := hA0
  rw [Tryd.params4] at hA hval
  obtain ⟨v0, vs0, d0, ds0, p0, q0, hargs, rfl, rfl, h0, r0⟩ := trodAll_cons hA
  obtain ⟨rfl, rfl, rfl⟩ := trodAll_nil r0
  obtain rfl : args = #[v0] := by cases args; simp_all
  obtain ⟨rfl, rfl⟩ := trodVars_none hV
  have hk := mx_met hL hSh
  obtain ⟨A, n, c, zs, rfl, hs, hl, hy⟩ := open_bytes (hval 0 26 v0 rfl rfl) h0
  have hw : Calls Tryd.prog 4 #[.slice A n c] W fun e w' => e = .returned (.bool true) ∧ Below W.heap.size W w' := by
    rcases (by omega : 5000 < n ∨ n ≤ 5000) with h | h
    · exact walk_more A n c W h hk
    · exact walk_all A n c zs W hs hl hy h hk
  refine hw.mono fun e W' ⟨he, hb⟩ => ?_
  subst he
  exact ⟨_, rfl, law_post (by kernel_rfl) rfl rfl Tryd.underlying4 readable hW' rfl hb⟩

/-- OptionsGet: the row, as given -/
theorem row : Rows.OptionsGetSaid :=
  OpenClaim.holds_of_wide 4 Tryd.f4 rfl rfl rfl rfl rfl rfl rfl ⟨rfl, rfl, rfl, rfl, rfl⟩ rfl rfl rfl rfl rfl (by kernel_rfl) Tryd.func4 (by kernel_rfl)
    (of_decide_eq_true (by kernel_rfl)) (by unfold Func.isWrapper; first | (rw [if_pos (by decide +kernel)]; kernel_rfl) | (rw [if_neg (by decide +kernel)]; exact ⟨rfl, rfl⟩))
    (fun os started H enc _ => lifted os started H enc)

/-- OptionsGet: the tied card, as given -/
theorem holds : Rows.OptionsGetCardSaid :=
  Claim7.holds_tied_plain_at .later [] [.data, .pinned] true Rows.optionsGetCard.stood.harness false
    row (fun _ h => by cases h) (by kernel_rfl) (fun _ h => by cases h) optionsGet_row_tie rfl ⟨rfl, rfl⟩ (by kernel_rfl) rfl
    (fun f fn hf hfn => by
      obtain rfl : f = 4 := Option.some.inj ((show Tryd.prog.funcNamed "sojourner/sojournerlaw10.OptionsGet" = some 4 by kernel_rfl).symm.trans hf) |>.symm
      obtain rfl : fn = Tryd.f4 := (Option.some.inj (Tryd.func4.symm.trans hfn)).symm
      exact ⟨by kernel_rfl, fun j t ht => by
        rw [Tryd.params4] at ht
        have hm : t ∈ [26] := by simpa using Array.mem_of_getElem? ht
        have hall : ([26].all fun u => !Tryd.prog.wantsStandIn u) = true := by kernel_rfl
        exact (show Tryd.prog.wantsStandIn t = false by simpa using List.all_eq_true.1 hall t hm)⟩)
    (by kernel_rfl)

#print axioms holds
end Go.Proofs.YtdebifkefpclaaaDoor.optionsGet
