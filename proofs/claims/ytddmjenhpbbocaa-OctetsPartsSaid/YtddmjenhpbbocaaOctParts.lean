/-
  OctetsParts: bytes that are cut in parts are, together, the bytes; a part more than there is spoils, and whatever is asked behind that is nothing: the law returns true for every input, and its arguments read as before.
  Conditions: none.
-/
import Derived.Test.YtddmjenhpbbocaaOpen
import Derived.Lib.SmallJoins
namespace Go.Proofs.Ytddmjenhpbbocaa.octetsParts
open Go.ChangeShapes Go.WideShapes Go.ChangeAt Go.RowKit

/-- where the law stands: pos bytes are cut, v has them; the ask is at block a -/
structure Sc (w wr : World) (g d base a : Nat) (n : Int) (zs : List Int) (pos o c : Nat) (v : Value) : Prop where
  cut : Cut wr g d o c (zs.drop pos)
  own : Own wr base v (zs.take pos)
  pos : pos ≤ zs.length
  bel : Below w.heap.size w wr
  ask : wr.cell? ⟨a, 1, none⟩ = some (.int .i64 n)
  bs : base ≤ wr.heap.size
  lt : w.heap.size ≤ g ∧ g < base ∧ d < base ∧ a < base ∧ a ≠ g ∧ w.heap.size ≤ base

section
variable {w wr w' : World} {g d base a pos o c : Nat} {n : Int} {zs : List Int} {v : Value}
theorem Sc.drewN (h : Sc w wr g d base a n zs pos o c v) (q : Nat) : Sc w (wr.drewN q) g d base a n zs pos o c v :=
  ⟨h.cut.drewN q, h.own, h.pos, ⟨h.bel.os, h.bel.tape, h.bel.output, h.bel.size, h.bel.block⟩, h.ask, h.bs, h.lt⟩
theorem Sc.ne (h : Sc w wr g d base a n zs pos o c v) {k : Nat} (hk : k < base) : some k ≠ v.ownBlock := fun e => by
  have := (World.ownsRow.lt h.own k e.symm).1
  omega
/-- k bytes more are cut, not yet appended -/
theorem Sc.cutK (h : Sc w wr g d base a n zs pos o c v) {k : Nat} (hg : wr.grownBy w' (some g)) (hc : Cut w' g d (step o c k) (c - k) ((zs.drop pos).drop k)) :
    Own w' base v (zs.take pos) ∧ Below w.heap.size w w' ∧ w'.cell? ⟨a, 1, none⟩ = some (.int .i64 n) ∧ base ≤ w'.heap.size ∧ Rd w' (some ⟨d, o, none⟩) ((zs.drop pos).take k) ∧ Cut w' g d (step o c k) (c - k) (zs.drop (pos + k)) := by
  obtain ⟨l1, l2, l3, l4, l5, l6⟩ := h.lt
  refine ⟨h.own.gb hg (fun e => (h.ne l2) e.symm), below_gb h.bel hg (Nat.le_trans l6 h.bs) l1, ?_, Nat.le_trans h.bs hg.size, ?_, ?_⟩
  · exact hg.cell h.ask (fun e => by injection e with e; exact l5 e)
  · exact (h.cut.rd.take k).gb hg (fun x hx => by injection hx with hx; subst hx; intro e; injection e with e; exact h.cut.ne e)
  · rwa [List.drop_drop] at hc
end

theorem own_below' {w w' W : World} {base : Nat} {v : Value} {xs : List Int} {B : Nat} (h : Own w base v xs) (hg : w.grownBy w' v.ownBlock) (hb : Below B W w) (hB : base ≤ w.heap.size) (hl : B ≤ base) : Below B W w' :=
  hb.grown hg (by omega) (fun k hk => Nat.le_trans hl (World.ownsRow.lt h k hk).1)

set_option maxHeartbeats 4000000 in
theorem walk (A L : Option Addr) (bn bc ln lc : Nat) (zs us : List Int) (kd n : Int) (w : World) (hz : zs.length = bn) (hu : us.length = ln) (hbn : bn ≤ 2000) (hln : ln ≤ 300)
    (hA : Slc w (.slice A bn bc) zs) (hL : Slc w (.slice L ln lc) us) (hzb : Byt zs) (hub : Byt us) :
    Calls Try.prog 7 #[.slice A bn bc, .slice L ln lc, .agg #[.int .u8 kd, .int .i64 n]] w fun e w' => e = .returned (.bool true) ∧ Below w.heap.size w w' := by
  have HZ := veil hz
  have HU := veil hu
  have HA := veil hA
  have HL := veil hL
  have HZB := veil hzb
  have HUB := veil hub
  clear hz hu hA hL hzb hub
  go_enter Try.func7, Try.ntmps7
  go_wp2_with fail
  have hr0 := (slc_rd HA.out).1.keep (below_new w (.cells #[.int .u8 kd, .int .i64 n] 35))
  refine (of_new A bn bc zs _ HZ.out (by omega) HZB.out hr0).mono ?_
  rintro e w1 ⟨rfl, hc1, b1, hs1, -⟩
  have hS : Hid (Sc w w1 (w.heap.size + 1 + 1) (w.heap.size + 1) w1.heap.size w.heap.size n zs 0 0 zs.length (.slice none 0 0)) := by
    simp only [World.size_alloc] at hc1 b1 hs1
    have ha : Row (w.alloc (.cells #[.int .u8 kd, .int .i64 n] 35)) w.heap.size 35 #[.int .u8 kd, .int .i64 n] := row_new rfl
    exact ⟨hc1, own_nil _ _, Nat.zero_le _, (below_new _ _).trans (b1.mono (by omega)), (ha.below b1 (by omega)).cell 1, Nat.le_refl _, by omega⟩
  clear hc1 b1 hs1 hr0
  go_wp2_with fail
  generalize w.heap.size + 1 + 1 = g at hS ⊢
  generalize w.heap.size + 1 = d at hS ⊢
  generalize w1.heap.size = base at hS
  go_loopw [8, 9] (fun al i wr => ∃ (j pos o c m cc : Nat) (C : Option Addr), j ≤ ln ∧ i = .int .i64 j ∧ al = .slice C m cc ∧ Hid (Sc w wr g d base w.heap.size n zs pos o c (.slice C m cc))) (fun _ i _ => ln - (intOf i).toNat)
  case atStart => exact ⟨0, 0, 0, zs.length, 0, 0, none, Nat.zero_le _, rfl, rfl, hS⟩
  case round =>
    obtain ⟨j, pos, o, c, m, cc, C, hj, rfl, rfl, hR⟩ := hrel
    clear hS
    by_cases hlt : j < ln
    · obtain ⟨la, rfl, hcl⟩ := ((slc_rd HL.out).1.keep hR.out.bel) j (by rw [HU.out]; exact hlt)
      obtain ⟨u, hu⟩ := Int.eq_ofNat_of_zero_le (HUB.out.at_ j).1
      have hu255 : u ≤ 255 := by have := (HUB.out.at_ j).2; omega
      rw [hu] at hcl
      clear hu
      have hlf : ∀ q, Calls Try.prog 14 #[.pointer (some ⟨g, 0, none⟩)] (wr.drewN q) fun e w' => e = .returned (.int .i64 (zs.drop pos).length) ∧ wr.drewN q = w' := fun q => (hR.out.drewN q).cut.left_
      generalize hlen : (zs.drop pos).length = lf at hlf
      have hlf2 : lf ≤ 2000 := by rw [← hlen]; simp; have := HZ.out; omega
      have HLEN := veil hlen
      have HLF := veil hlf
      have hwu : IntKind.i64.wrap (u : Int) = u := IntWalk.i64_in _ (by omega)
      clear hlen hlf
      by_cases hc : lf < u
      · go_wp2_with fail
        go_quiet ((go_at_call 14; exact quiet_as (HLF.out _)))
        have hQ := hR.out.drewN nq
        have HQ := veil hQ
        have hkl : lf ≤ (zs.drop pos).length := by rw [HLEN.out]; omega
        have HBy := veil (hQ.cut.bytes_ lf hkl)
        have HKL := veil hkl
        clear hwu hQ hkl
        generalize wr.drewN nq = wq at HQ HBy ⊢
        go_wp2_with fail
        refine (HBy.out).mono ?_
        rintro e w2 ⟨rfl, hg2, hc2⟩
        have hall := HQ.out.cutK hg2 hc2
        have hlt2 := HQ.out.lt
        have hps := HQ.out.pos
        have HP := veil hall
        have HK2 := veil (And.intro hlt2 hps)
        clear HBy hg2 hc2 hall HLF hR hlt2 hps HQ
        go_wp2_with fail
        refine (HP.out.2.2.2.2.2.bad_).mono ?_
        rintro e w' ⟨rfl, rfl⟩
        obtain ⟨v3, w3, hr3, ho3, hg3, hv3⟩ := run_append_slc w2 base 22 (.slice C m cc) (.slice (some ⟨d, o, none⟩) lf lf) (zs.take pos) ((zs.drop pos).take lf) HP.out.1
          (.inr ⟨_, lf, by simp; have := HKL.out; simp at this; omega, HP.out.2.2.2.2.1, by simp; omega⟩) (by simp; have := HZ.out; omega) HP.out.2.2.2.1
        have hS3 : Hid (Sc w w3 g d base w.heap.size n zs (pos + lf) (step o c lf) (c - lf) v3) := by
          obtain ⟨po, pb, pa, ps, _, pc⟩ := HP.out
          obtain ⟨⟨l1, l2, l3, l4, l5, l6⟩, hps⟩ := HK2.out
          have hkl := HKL.out
          have hne : ∀ k, k < base → some k ≠ (Value.slice C m cc).ownBlock := fun k hk e => by have := (World.ownsRow.lt po k e.symm).1; omega
          refine ⟨⟨pc.row.gb hg3 (hne g l2), pc.rd.gb hg3 (fun x hx => by injection hx with hx; subst hx; exact hne d l3), pc.cap, pc.byt, pc.ne⟩, ?_, by simp at hkl; omega,
            own_below' po hg3 pb ps l6, hg3.cell pa (hne _ l4), Nat.le_trans ps hg3.size, l1, l2, l3, l4, l5, l6⟩
          rwa [List.take_add]
        obtain ⟨C3, c3, e3, _, _⟩ := ho3.slc.slice
        generalize (zs.take pos ++ (zs.drop pos).take lf).length = m3 at e3
        subst e3
        have HR3 := veil hr3
        clear hr3 ho3 hg3 hv3 HP HK2
        go_wp2_with (first | (at_builtin; refine wpList_append_run rfl (.tmp 49) (.tmp 50) rfl rfl rfl HR3.out ?_))
        go_roundw
        case rel => exact ⟨j + 1, _, _, _, _, _, _, by omega, by go_num, rfl, hS3⟩
        case measure => simp [intOf]; omega
      · have hc' : ¬ lf < u := hc
        go_wp2_with fail
        go_quiet ((go_at_call 14; exact quiet_as (HLF.out _)))
        have hQ := hR.out.drewN nq
        have HQ := veil hQ
        have hkl : u ≤ (zs.drop pos).length := by rw [HLEN.out]; omega
        have HBy := veil (hQ.cut.bytes_ u hkl)
        have HKL := veil hkl
        clear hwu hQ hkl
        generalize wr.drewN nq = wq at HQ HBy ⊢
        go_wp2_with fail
        refine (HBy.out).mono ?_
        rintro e w2 ⟨rfl, hg2, hc2⟩
        have hall := HQ.out.cutK hg2 hc2
        have hlt2 := HQ.out.lt
        have hps := HQ.out.pos
        have HP := veil hall
        have HK2 := veil (And.intro hlt2 hps)
        clear HBy hg2 hc2 hall HLF hR hlt2 hps HQ
        go_wp2_with fail
        refine (HP.out.2.2.2.2.2.bad_).mono ?_
        rintro e w' ⟨rfl, rfl⟩
        obtain ⟨v3, w3, hr3, ho3, hg3, hv3⟩ := run_append_slc w2 base 22 (.slice C m cc) (.slice (some ⟨d, o, none⟩) u u) (zs.take pos) ((zs.drop pos).take u) HP.out.1
          (.inr ⟨_, u, by simp; have := HKL.out; simp at this; omega, HP.out.2.2.2.2.1, by simp; omega⟩) (by simp; have := HZ.out; omega) HP.out.2.2.2.1
        have hS3 : Hid (Sc w w3 g d base w.heap.size n zs (pos + u) (step o c u) (c - u) v3) := by
          obtain ⟨po, pb, pa, ps, _, pc⟩ := HP.out
          obtain ⟨⟨l1, l2, l3, l4, l5, l6⟩, hps⟩ := HK2.out
          have hkl := HKL.out
          have hne : ∀ k, k < base → some k ≠ (Value.slice C m cc).ownBlock := fun k hk e => by have := (World.ownsRow.lt po k e.symm).1; omega
          refine ⟨⟨pc.row.gb hg3 (hne g l2), pc.rd.gb hg3 (fun x hx => by injection hx with hx; subst hx; exact hne d l3), pc.cap, pc.byt, pc.ne⟩, ?_, by simp at hkl; omega,
            own_below' po hg3 pb ps l6, hg3.cell pa (hne _ l4), Nat.le_trans ps hg3.size, l1, l2, l3, l4, l5, l6⟩
          rwa [List.take_add]
        obtain ⟨C3, c3, e3, _, _⟩ := ho3.slc.slice
        generalize (zs.take pos ++ (zs.drop pos).take u).length = m3 at e3
        subst e3
        have HR3 := veil hr3
        clear hr3 ho3 hg3 hv3 HP HK2
        go_wp2_with (first | (at_builtin; refine wpList_append_run rfl (.tmp 49) (.tmp 50) rfl rfl rfl HR3.out ?_))
        go_roundw
        case rel => exact ⟨j + 1, _, _, _, _, _, _, by omega, by go_num, rfl, hS3⟩
        case measure => simp [intOf]; omega
    · have hm : m = pos := by
        have h1 := (slc_rd hR.out.own.slc).2
        have h2 := hR.out.pos
        rw [List.length_take] at h1
        omega
      subst hm
      have hlf := hR.out.cut.left_
      generalize hlen : (zs.drop m).length = lf at hlf
      have hsum : m + lf = bn := by have := hR.out.pos; have h2 := HZ.out; simp at hlen; omega
      have hov := hR.out.cut.bytes_over ((lf : Int) + 1) (.inr (by rw [hlen]; omega))
      have hlf2 : lf ≤ 2000 := by omega
      have hm2 : m ≤ 2000 := by omega
      have hq : ((m : Int) + (lf : Int) != (bn : Int)) = false := by simp; omega
      have HLF := veil hlf
      have HOV := veil hov
      have HSUM := veil hsum
      clear hlen hlf hov hsum
      go_wp2_with fail
      refine (HLF.out).mono ?_
      rintro e w' ⟨rfl, rfl⟩
      go_wp2_with fail
      refine (HOV.out).mono ?_
      rintro e w2 ⟨rfl, hg2, hs2⟩
      have hlt2 := hR.out.lt
      have ho2 := hR.out.own.gb hg2 (fun e => (hR.out.ne hlt2.2.1) e.symm)
      have hb2 := below_gb hR.out.bel hg2 (Nat.le_trans hlt2.2.2.2.2.2 hR.out.bs) hlt2.1
      have ha2 := hg2.cell hR.out.ask (fun e => by injection e with e; exact hlt2.2.2.2.2.1 e)
      have hr2 := (slc_rd ho2.slc).1
      have hr3 := ((slc_rd (HA.out.keep hb2)).1).take m
      have HO := veil (And.intro hr2 hr3)
      have HS2 := veil hs2
      clear HLF HOV hg2 hR hlt2 ho2 hr2 hr3 hs2
      go_wp2_with fail
      refine (HS2.out.bad_).mono ?_
      rintro e w' ⟨rfl, rfl⟩
      go_wp2_with fail
      refine (HS2.out.left_).mono ?_
      rintro e w' ⟨rfl, rfl⟩
      go_wp2_with fail
      refine (HS2.out.num_ 1).mono ?_
      rintro e w' ⟨rfl, rfl⟩
      go_wp2_with fail
      refine (HS2.out.bytes_ 0).mono ?_
      rintro e w' ⟨rfl, rfl⟩
      go_wp2_with fail
      refine (HS2.out.num_ n).mono ?_
      rintro e w' ⟨rfl, rfl⟩
      go_wp2_with fail
      refine (HS2.out.bytes_ n).mono ?_
      rintro e w' ⟨rfl, rfl⟩
      go_wp2_with fail
      refine (HS2.out.rest_).mono ?_
      rintro e w' ⟨rfl, rfl⟩
      go_wp2_with fail
      refine (HS2.out.bad_).mono ?_
      rintro e w' ⟨rfl, rfl⟩
      have hmb : m ≤ bn := by have := HSUM.out; omega
      have hmc : m ≤ bc := Nat.le_trans hmb (slc_cap HA.out)
      clear ha2 hq
      go_wp2_with fail
      refine (sameBytes_eq _ _ m cc bc (zs.take m) _ (by have := HZ.out; simp; omega) (by unfold maxLen; omega) HO.out.1 HO.out.2).mono ?_
      rintro e w7 ⟨rfl, hw7⟩
      have b7 := below_still hb2 hw7
      clear hw7 hb2
      go_wp2_with fail
      refine (lives_true _).mono ?_
      rintro e w8 ⟨rfl, hw8⟩
      go_wp2_with fail
      go_ret
      exact ⟨rfl, b7.trans (hw8.mono b7.size)⟩

/-- more than are gone through -/
theorem walk_more (A B : Option Addr) (ln lc bn bc : Nat) (kd n : Int) (w : World) (h : 2000 < ln ∨ 300 < bn) :
    Calls Try.prog 7 #[.slice A ln lc, .slice B bn bc, .agg #[.int .u8 kd, .int .i64 n]] w fun e w' => e = .returned (.bool true) ∧ Below w.heap.size w w' := by
  by_cases h1 : 2000 < ln
  · clear h
    go_enter Try.func7, Try.ntmps7
    go_wp2_with fail
    refine (lives_true _).mono ?_
    rintro e w8 ⟨rfl, hw8⟩
    go_wp2_with fail
    go_ret
    exact ⟨rfl, (below_new _ _).trans (hw8.mono (by simp))⟩
  · have h2 : 300 < bn := by omega
    have h3 : ln ≤ 2000 := by omega
    clear h h1
    go_enter Try.func7, Try.ntmps7
    go_wp2_with fail
    refine (lives_true _).mono ?_
    rintro e w8 ⟨rfl, hw8⟩
    go_wp2_with fail
    go_ret
    exact ⟨rfl, (below_new _ _).trans (hw8.mono (by simp))⟩

theorem own : ownKnob Try.prog.godebug = none := by kernel_rfl
theorem readable : ∀ t ∈ Try.f7.params.toList, Try.prog.readableRec t = true ∧ t < Try.prog.types.size := by
  rw [Try.params7]
  intro t ht
  simp at ht
  rcases ht with rfl | rfl
  · exact ⟨by kernel_rfl, of_decide_eq_true (by kernel_rfl)⟩
  · exact ⟨by kernel_rfl, of_decide_eq_true (by kernel_rfl)⟩
theorem cellsAsk : Try.prog.cellsOf 35 = 2 := by kernel_rfl

set_option maxRecDepth 100000 in
theorem lifted (os : Os) (started : os.Started) (H : Type) (enc : TypeId × Value → H) :
    ReturnsInHanded {} Try.checked os 7 .any (Rows.octetsPartsSpec.pre6 enc Try.prog Try.f7 Rows.octetsPartsRow.domain false) (Rows.octetsPartsSpec.post enc Try.prog Try.f7 false true false false) := by
  refine returnsInHanded_of_change (C := Try.checked) own started (by kernel_rfl) Try.func7
    (ChangeSpec.witness6 (enc := enc) (C := Try.checked) false ⟨#[], #[.slice none 0 0, .slice none 0 0, .agg #[.int .u8 0, .int .i64 0]], []⟩ 8 (by kernel_rfl) (by kernel_rfl) (by kernel_rfl) (by kernel_rfl)) ?_
  intro W base args ds gs before hval0 hW _ _
  have hval : ∀ (j : Nat) t v, Try.f7.params[j]? = some t → args[j]? = some v → Value.okWide Try.prog W .any base t v := hval0
  have hW' := hW
  obtain ⟨p, q, hA0, hV, rfl, _, _⟩ := hW
  have hA : DataW.TrodAll enc Try.prog W 0 (fun _ => true) true Try.f7.params.toList args.toList ds p := hA0
  rw [Try.params7] at hA hval
  obtain ⟨v0, vs0, d0, ds0, p0, q0, hargs, rfl, rfl, h0, r0⟩ := trodAll_cons hA
  obtain ⟨v1, vs1, d1, ds1, p1, q1, rfl, rfl, rfl, h1, r1⟩ := trodAll_cons r0
  obtain ⟨v2, vs2, d2, ds2, p2, q2, rfl, rfl, rfl, h2, r2⟩ := trodAll_cons r1
  obtain ⟨rfl, rfl, rfl⟩ := trodAll_nil r2
  obtain rfl : args = #[v0, v1, v2] := by cases args; simp_all
  obtain ⟨rfl, rfl⟩ := trodVars_none hV
  obtain ⟨A, bn, bc, zs, rfl, hS, hz, hY⟩ := open_bytes (hval 0 22 v0 rfl rfl) h0
  obtain ⟨L, ln, lc, us, rfl, hT, hu, hX⟩ := open_bytes (hval 1 22 v1 rfl rfl) h1
  obtain ⟨c0, c1, y0, y1, m, rfl, rfl, rfl, hy0, hy1⟩ := Go.Joins.open_agg2 Try.underlying35 (by kernel_rfl) cellsAsk (hval 2 35 v2 rfl rfl) h2
  obtain ⟨a, e0, rfl, wa⟩ := DataW.trod_int Try.underlying5 hy0
  obtain ⟨b, e1, rfl, wb⟩ := DataW.trod_int Try.underlying3 hy1
  simp at e0 e1
  subst e0 e1
  have hw : Calls Try.prog 7 #[.slice A bn bc, .slice L ln lc, .agg #[.int .u8 a, .int .i64 b]] W fun e w' => e = .returned (.bool true) ∧ Below W.heap.size W w' := by
    by_cases hs : bn ≤ 2000 ∧ ln ≤ 300
    · exact walk A L bn bc ln lc zs us a b W hz hu hs.1 hs.2 hS hT hY hX
    · exact walk_more A L bn bc ln lc a b W (by omega)
  refine hw.mono fun e W' ⟨he, hb⟩ => ?_
  subst he
  exact ⟨_, rfl, law_post (by kernel_rfl) rfl rfl Try.underlying4 readable hW' rfl hb⟩

/-- OctetsParts, as given -/
theorem holds : Rows.OctetsPartsSaid :=
  OpenClaim.holds_of_wide 7 Try.f7 rfl rfl rfl rfl rfl rfl rfl ⟨rfl, rfl, rfl, rfl, rfl⟩ rfl rfl rfl rfl rfl (by kernel_rfl) Try.func7 (by kernel_rfl)
    (of_decide_eq_true (by kernel_rfl)) (by unfold Func.isWrapper; first | (rw [if_pos (by decide +kernel)]; kernel_rfl) | (rw [if_neg (by decide +kernel)]; exact ⟨rfl, rfl⟩))
    (fun os started H enc _ => lifted os started H enc)

#print axioms holds
end Go.Proofs.Ytddmjenhpbbocaa.octetsParts
