/-
  HeadersOption: an option that nobody knows is let go, drops the packet, or is told, by its two highest bits, and whether the packet is for many; known ones never are: the law returns true for every input, and its arguments read as before.
  Conditions: none.
-/
import Derived.Test.YtfkjfdmepeahnaaLwc
import Derived.Test.YtfkjfdmepeahnaaOptC
import Derived.Test.YtfkjfdmepeahnaaOpenB
namespace Go.Proofs.Ytfkjfdmepeahnaa.headersOption
set_option maxRecDepth 100000
open Go.ChangeShapes Go.WideShapes Go.ChangeAt Go.RowKit Go.Proofs.Ytfkjfdmepeahnaa.Hd Ops

/-- the bytes that are laid so far -/
theorem grow_lit {w0 w : World} {L : List Blk} {base : Nat} {v : Value} {xs : List Int} (G : Grow w0 w L base v xs) (zs : List Int) (m : Nat) {cs : Array Value} (hc : cs.toList = bv zs) (hm : zs.length = m) (hb : xs.length + m ≤ 1000) :
    ∃ v' w', (Builtin.append_ #[28, 28] 28 #[v, .slice (some ⟨w.heap.size, 0, none⟩) m m]).run Try.prog (w.alloc (.cells cs 5)) = .ok v' w' ∧ Grow w0 w' L base v' (xs ++ zs) := by
  have G1 := G.keep (below_new w (.cells cs 5))
  have r : Row (w.alloc (.cells cs 5)) w.heap.size 5 cs := row_new rfl
  exact G1.append (.inr ⟨⟨w.heap.size, 0, none⟩, m, by rw [hm], rd_lit r hc, by rw [hm]; exact Nat.le_refl _⟩) (by omega) 28
theorem hB_len (kd : Int) {n : Nat} (hn : n ≤ 3) : (hB kd n).length = 8 := by simp [hB]; omega
theorem hB_byt {kd : Int} {n : Nat} (hk : 0 ≤ kd ∧ kd ≤ 255) (hn : n ≤ 3) : Byt (hB kd n) := fun z hz => by
  simp only [hB, List.mem_append, List.mem_cons, List.not_mem_nil, or_false, List.mem_replicate] at hz
  omega

set_option linter.unusedSimpArgs false in
set_option maxHeartbeats 16000000 in
theorem walk_all (kd pad : Int) (mc : Bool) (w : World) (hk : 0 ≤ kd ∧ kd ≤ 255) (hp : 0 ≤ pad ∧ pad ≤ 255) :
    Calls Try.prog 8 #[.int .u8 kd, .bool mc, .int .u8 pad] w fun e w' => e = .returned (.bool true) ∧ Below w.heap.size w w' := by
  obtain ⟨n, hn⟩ : ∃ n : Nat, pad % 4 = n := ⟨(pad % 4).toNat, by omega⟩
  have hn3 : n ≤ 3 := by omega
  obtain ⟨l, c1, q1, er, al2, q2, hcls, hT1, hT2⟩ := opt_cls kd n mc hk hn3
  have VC := veil hcls
  have V1 := veil hT1
  have V2 := veil hT2
  have VK := veil hk
  have e1 : pad.tmod 4 = (n : Int) := by rw [Int.tmod_eq_emod_of_nonneg hp.1]; exact hn
  have e2 : IntKind.i64.wrap (n : Int) = (n : Int) := by rw [IntKind.wrap_i64]; omega
  have VE : Hid (pad % 4 = (n : Int)) := hn
  have HM := run_make_u8 0 (by omega) w
  have Yz := (Lay.begin w).newA (zeros 0) 5 (g := w.heap.size) rfl
  have e0 : (zeros 0).toList = bv [] := by rw [zeros_list]; rfl
  rw [e0] at Yz
  obtain ⟨w0, hw0⟩ : ∃ w0, w.alloc (.cells (zeros 0) 5) = w0 := ⟨_, rfl⟩
  rw [hw0] at Yz HM
  have G0 := Grow.whole (L := []) (xs := []) (n := 0) Yz rfl (by omega) (fun _ h => by cases h)
  obtain ⟨v1, w1, h1, G1⟩ := grow_lit G0 [17, 0] 2 (cs := #[.int .u8 17, .int .u8 0]) rfl rfl (by simp)
  have H1 := veil h1
  have VG := veil G1
  clear hcls hT1 hT2 Yz e0 hw0 G0 h1 G1 hk
  go_enter Try.func8, Try.ntmps8
  replace HM := veil HM
  clear hn
  go_wp2_with (first
    | (at_make; refine wpList_value_of rfl (Instr.makeSlice 28 (.int .i64 0) (.int .i64 0)) rfl HM.out ?_)
    | (at_builtin; refine wpList_append_run rfl (.tmp 26) (.tmp 27) rfl rfl rfl H1.out ?_))
  clear H1 HM e1
  go_loopw [8, 9] (fun s8 i wr => ∃ j : Nat, j ≤ n ∧ i = .int .i64 j ∧ Hid (Grow w wr [] w.heap.size s8 ([17, 0] ++ List.replicate j 0))) (fun _ i _ => n - (intOf i).toNat)
  case atStart => exact ⟨0, Nat.zero_le _, rfl, VG⟩
  case round =>
    obtain ⟨j, hj, rfl, VJ⟩ := hrel
    clear VG
    by_cases hlt : j < n
    · have ij : (j : Int) < (n : Int) := by omega
      obtain ⟨v2, w2, h2, G2⟩ := grow_lit VJ.out [0] 1 (cs := #[.int .u8 0]) rfl rfl (by simp; omega)
      have H2 := veil h2
      have V2' := veil (show Grow w w2 [] w.heap.size v2 ([17, 0] ++ List.replicate (j + 1) 0) by rw [List.replicate_succ', ← List.append_assoc]; exact G2)
      clear h2 G2 VJ
      go_wp2_with (at_builtin; refine wpList_append_run rfl (.tmp 34) (.tmp 35) rfl rfl rfl H2.out ?_)
      go_roundw
      case rel => exact ⟨j + 1, by omega, by go_num, V2'⟩
      case measure => simp [intOf]; omega
    · have ij : ¬ (j : Int) < (n : Int) := by omega
      obtain rfl : j = n := by omega
      have e3 : IntKind.i64.wrap (4 - (j : Int)) = 4 - (j : Int) := by rw [IntKind.wrap_i64]; omega
      have e4 : IntKind.u8.wrap (4 - (j : Int)) = ((4 - j : Nat) : Int) := by rw [IntKind.wrap_u8]; omega
      obtain ⟨v3, w3, h3, G3⟩ := grow_lit VJ.out [kd, ((4 - j : Nat) : Int)] 2 (cs := #[.int .u8 kd, .int .u8 ((4 - j : Nat) : Int)]) rfl rfl (by simp; omega)
      have H3 := veil h3
      have V3 := veil G3
      clear h3 G3 VJ
      go_wp2_with (at_builtin; refine wpList_append_run rfl (.tmp 37) (.tmp 42) rfl rfl rfl H3.out ?_)
      clear H3 e3 e4 ij
      go_loopw [8] (fun s8 wr => ∃ (m q : Nat) (A : Option Addr) (c : Nat), m ≤ 4 - j ∧ Hid (q = 4 + j + m) ∧ s8 = .slice A q c ∧ Hid (Grow w wr [] w.heap.size (.slice A q c) ([17, 0] ++ List.replicate j 0 ++ [kd, ((4 - j : Nat) : Int)] ++ List.replicate m 0))) (fun s8 _ => match s8 with | .slice _ k _ => 8 - k | _ => 0)
      case atStart =>
        obtain ⟨A, c, e, _, _⟩ := V3.out.own.slc.slice
        have e' : v3 = .slice A (4 + j) c := by rw [e]; simp; omega
        exact ⟨0, 4 + j, A, c, by omega, veil rfl, e', veil (by rw [← e']; simpa using V3.out)⟩
      case round =>
        obtain ⟨m, q, A, c, hm, HQ, rfl, VJ⟩ := hrel
        clear V3
        by_cases hlt : m < 4 - j
        · have iq : (q : Int) < 8 := by have := HQ.out; omega
          obtain ⟨v4, w4, h4, G4⟩ := grow_lit VJ.out [0] 1 (cs := #[.int .u8 0]) rfl rfl (by have := HQ.out; simp; omega)
          have H4 := veil h4
          obtain ⟨A4, c4, e4, _, _⟩ := G4.own.slc.slice
          replace e4 : v4 = .slice A4 (q + 1) c4 := by have := HQ.out; rw [e4]; simp; omega
          subst e4
          have V4 := veil (show Grow w w4 [] w.heap.size (.slice A4 (q + 1) c4) ([17, 0] ++ List.replicate j 0 ++ [kd, ((4 - j : Nat) : Int)] ++ List.replicate (m + 1) 0) by rw [List.replicate_succ', ← List.append_assoc]; exact G4)
          clear h4 G4 VJ
          go_wp2_with (at_builtin; refine wpList_append_run rfl (.tmp 47) (.tmp 48) rfl rfl rfl H4.out ?_)
          go_roundw
          case rel => exact ⟨m + 1, q + 1, A4, c4, by omega, veil (by have := HQ.out; omega), rfl, V4⟩
          case measure => simp; omega
        · have iq : ¬ (q : Int) < 8 := by have := HQ.out; omega
          obtain rfl : q = 8 := by have := HQ.out; omega
          obtain rfl : m = 4 - j := by omega
          have hb : [17, 0] ++ List.replicate j 0 ++ [kd, ((4 - j : Nat) : Int)] ++ List.replicate (4 - j) 0 = hB kd j := rfl
          rw [hb] at VJ
          have VB := veil VJ.out.lay.below
          have RD := veil (slc_rd VJ.out.own.slc).1
          have K1 := veil (answers (next := 60) (zs := hB kd j) (A := A) (n := 8) (cc := c) (p := 72) (mc := mc) (w := wr) (rs := []) (al := false) (by omega) RD.out (hB_len kd hn3) (hB_byt VK.out hn3) (by omega) (by omega) V1.out)
          clear VJ hb hlt hm HQ
          go_wp2_with fail
          refine (K1.out).mono ?_
          rintro e w4 ⟨A4, n4, rfl, _, hn4, q4⟩
          obtain rfl : n4 = 0 := hn4
          have bz : Below wr.heap.size wr ((w4.alloc fg0).alloc (.cells #[.int .u8 c1, .int .u32 q1] 45)) := q4.trans (((below_new w4 fg0).trans ((below_new _ _).mono (by simp))).mono q4.size)
          have Y4 := ((((Lay.begin w).keep VB.out).keep q4).newA #[.bool false, .int .u32 0, .int .u16 0, .bool false] 27 (g := w4.heap.size) rfl).newA #[.int .u8 c1, .int .u32 q1] 45 (g := w4.heap.size + 1) (by simp)
          have V4 := veil Y4
          have K2 := veil (answers (next := 0) (zs := hB kd j) (A := A) (n := 8) (cc := c) (p := 40) (mc := mc) (w := (w4.alloc fg0).alloc (.cells #[.int .u8 c1, .int .u32 q1] 45)) (rs := []) (al := al2) (by omega) (RD.out.keep bz) (hB_len kd hn3) (hB_byt VK.out hn3) (by omega) (by omega) V2.out)
          have e5 : IntKind.u32.wrap (74 + (j : Int)) = 74 + (j : Int) := by rw [IntKind.wrap_u32]; omega
          clear K1 q4 bz Y4 RD VB V1 V2
          go_wp2_with fail
          refine (K2.out).mono ?_
          rintro e w5 ⟨A5, n5, rfl, _, hn5, q5⟩
          obtain rfl : n5 = 0 := hn5
          have Y5 := (((V4.out.keep q5).newA #[.bool false, .int .u32 0, .int .u16 0, .bool false] 27 (g := w5.heap.size) rfl).newA #[.int .u8 c1, .int .u32 q2] 45 (g := w5.heap.size + 1) (by simp)).newA #[.int .u8 2, .int .u32 (74 + (j : Int))] 45 (g := w5.heap.size + 1 + 1) (by simp)
          have L : Hid (∀ v, v = Value.agg #[.int .u8 c1, .int .u32 q1] → (Instr.loadAt 45 (.pointer (some ⟨w4.heap.size + 1, 0, none⟩))).run Try.prog (((w5.alloc fg0).alloc (.cells #[.int .u8 c1, .int .u32 q2] 45)).alloc (.cells #[.int .u8 2, .int .u32 (74 + (j : Int))] 45)) = .ok v (((w5.alloc fg0).alloc (.cells #[.int .u8 c1, .int .u32 q2] 45)).alloc (.cells #[.int .u8 2, .int .u32 (74 + (j : Int))] 45))) := fun v hv => by
            subst hv
            exact Y5.load mem3 (part_all _) Try.underlying45 rfl (sizeFl c1 q1)
          have Q5 := veil Y5.below
          have vk := VK.out
          clear K2 q5 Y5 V4 VK VE
          rcases VC.out with ⟨h, rfl, rfl, rfl, rfl, hal⟩ | ⟨h, h2, rfl, rfl, rfl, rfl, rfl⟩ | ⟨h, h2, rfl, rfl, rfl, rfl, rfl⟩
          · clear VC
            by_cases k5 : kd = 5
            · subst k5
              by_cases j2 : j = 2
              · subst j2
                obtain rfl : al2 = true := by rw [hal]; rfl
                clear hal
                go_wp2_with (refine wpList_load_of rfl (.tmp 14) rfl rfl (L.out _ rfl) ?_)
                refine (lives_true _).mono ?_
                rintro e w9 ⟨rfl, q9⟩
                go_wp2_with fail
                go_ret
                exact ⟨rfl, Q5.out.trans (q9.mono Q5.out.size)⟩
              · obtain rfl : al2 = false := by rw [hal]; simpa using j2
                clear hal
                have dj : ((j : Int) == 2) = false := by simp; omega
                go_wp2_with (refine wpList_load_of rfl (.tmp 14) rfl rfl (L.out _ rfl) ?_)
                refine (lives_true _).mono ?_
                rintro e w9 ⟨rfl, q9⟩
                go_wp2_with fail
                go_ret
                exact ⟨rfl, Q5.out.trans (q9.mono Q5.out.size)⟩
            · obtain rfl : al2 = false := by rw [hal]; simp [k5]
              clear hal
              have dk : (kd == 5) = false := by simpa using k5
              go_wp2_with (refine wpList_load_of rfl (.tmp 14) rfl rfl (L.out _ rfl) ?_)
              refine (lives_true _).mono ?_
              rintro e w9 ⟨rfl, q9⟩
              go_wp2_with fail
              go_ret
              exact ⟨rfl, Q5.out.trans (q9.mono Q5.out.size)⟩
          · clear VC
            have dk : (kd == 5) = false := by simp; omega
            have hk64 : ¬ kd < 64 := by omega
            rcases h2 with h2 | ⟨h2, rfl⟩
            · skip
              go_wp2_with (refine wpList_load_of rfl (.tmp 14) rfl rfl (L.out _ rfl) ?_)
              refine (lives_true _).mono ?_
              rintro e w9 ⟨rfl, q9⟩
              go_wp2_with fail
              go_ret
              exact ⟨rfl, Q5.out.trans (q9.mono Q5.out.size)⟩
            · have hk128 : ¬ kd < 128 := by omega
              go_wp2_with (refine wpList_load_of rfl (.tmp 14) rfl rfl (L.out _ rfl) ?_)
              refine (lives_true _).mono ?_
              rintro e w9 ⟨rfl, q9⟩
              go_wp2_with fail
              go_ret
              exact ⟨rfl, Q5.out.trans (q9.mono Q5.out.size)⟩
          · clear VC
            have dk : (kd == 5) = false := by simp; omega
            have hk64 : ¬ kd < 64 := by omega
            have hk128 : ¬ kd < 128 := by omega
            by_cases h3 : kd < 192
            · have hk192 : ¬ 192 ≤ kd := by omega
              go_wp2_with (refine wpList_load_of rfl (.tmp 14) rfl rfl (L.out _ rfl) ?_)
              refine (lives_true _).mono ?_
              rintro e w9 ⟨rfl, q9⟩
              go_wp2_with fail
              go_ret
              exact ⟨rfl, Q5.out.trans (q9.mono Q5.out.size)⟩
            · obtain rfl : mc = false := by rcases h2 with h2 | h2; omega; exact h2
              have hk192 : 192 ≤ kd := by omega
              go_wp2_with (refine wpList_load_of rfl (.tmp 14) rfl rfl (L.out _ rfl) ?_)
              refine (lives_true _).mono ?_
              rintro e w9 ⟨rfl, q9⟩
              go_wp2_with fail
              go_ret
              exact ⟨rfl, Q5.out.trans (q9.mono Q5.out.size)⟩

theorem own : ownKnob Try.prog.godebug = none := by kernel_rfl
theorem readable : ∀ t ∈ Try.f8.params.toList, Try.prog.readableRec t = true ∧ t < Try.prog.types.size := by
  rw [Try.params8]
  intro t ht
  simp at ht
  rcases ht with rfl | rfl | rfl
  · exact ⟨by kernel_rfl, of_decide_eq_true (by kernel_rfl)⟩
  · exact ⟨by kernel_rfl, of_decide_eq_true (by kernel_rfl)⟩
  · exact ⟨by kernel_rfl, of_decide_eq_true (by kernel_rfl)⟩

set_option maxRecDepth 100000 in
theorem lifted (os : Os) (started : os.Started) (H : Type) (enc : TypeId × Value → H) :
    ReturnsInHanded {} Try.checked os 8 .any (Rows.headersOptionSpec.pre6 enc Try.prog Try.f8 Rows.headersOptionRow.domain false) (Rows.headersOptionSpec.post enc Try.prog Try.f8 false true false false) := by
  refine returnsInHanded_of_change_sized (C := Try.checked) own started (by kernel_rfl) Try.func8
    (ChangeSpec.witness6 (enc := enc) (C := Try.checked) false ⟨#[], #[.int .u8 0, .bool false, .int .u8 0], []⟩ 8 (by kernel_rfl) (by kernel_rfl) (by kernel_rfl) (by kernel_rfl)) ?_
  intro W base args ds gs before hval0 hW _ hsz0 _
  have hval : ∀ (j : Nat) t v, Try.f8.params[j]? = some t → args[j]? = some v → Value.okWide Try.prog W .any base t v := hval0
  have hW' := hW
  obtain ⟨p, q, hA0, hV, rfl, _, _⟩ := hW
  have hA : DataW.TrodAll enc Try.prog W 0 (fun _ => true) true Try.f8.params.toList args.toList ds p := hA0
  rw [Try.params8] at hA hval
  obtain ⟨v0, vs0, d0, ds0, p0, q0, hargs, rfl, rfl, h0, r0⟩ := trodAll_cons hA
  obtain ⟨v1, vs1, d1, ds1, p1, q1, rfl, rfl, rfl, h1, r1⟩ := trodAll_cons r0
  obtain ⟨v2, vs2, d2, ds2, p2, q2, rfl, rfl, rfl, h2, r2⟩ := trodAll_cons r1
  obtain ⟨rfl, rfl, rfl⟩ := trodAll_nil r2
  obtain rfl : args = #[v0, v1, v2] := by cases args; simp_all
  obtain ⟨rfl, rfl⟩ := trodVars_none hV
  obtain ⟨a0, rfl, rfl, rfl, w0⟩ := open_int Try.underlying5 (hval 0 5 v0 rfl rfl) h0
  obtain ⟨b1, rfl, rfl, rfl⟩ := open_bool Try.underlying4 (hval 1 4 v1 rfl rfl) h1
  obtain ⟨a2, rfl, rfl, rfl, w2⟩ := open_int Try.underlying5 (hval 2 5 v2 rfl rfl) h2
  have hw : Calls Try.prog 8 #[.int .u8 a0, .bool b1, .int .u8 a2] W fun e w' => e = .returned (.bool true) ∧ Below W.heap.size W w' := by
    exact walk_all a0 a2 b1 W (u8_of w0) (u8_of w2)
  refine hw.mono fun e W' ⟨he, hb⟩ => ?_
  subst he
  exact ⟨_, rfl, law_post (by kernel_rfl) rfl rfl Try.underlying4 readable hW' rfl hb⟩

/-- HeadersOption, as given -/
theorem holds : Rows.HeadersOptionSaid :=
  OpenClaim.holds_of_wide 8 Try.f8 rfl rfl rfl rfl rfl rfl rfl ⟨rfl, rfl, rfl, rfl, rfl⟩ rfl rfl rfl rfl rfl (by kernel_rfl) Try.func8 (by kernel_rfl)
    (of_decide_eq_true (by kernel_rfl)) (by unfold Func.isWrapper; first | (rw [if_pos (by decide +kernel)]; kernel_rfl) | (rw [if_neg (by decide +kernel)]; exact ⟨rfl, rfl⟩))
    (fun os started H enc _ => lifted os started H enc)

#print axioms holds
end Go.Proofs.Ytfkjfdmepeahnaa.headersOption
