/-
  HeadersChain: whatever chain it is, that stands anywhere, what it tells, or what is wrong, and where, is the chapter's; the bytes stay: the law returns true for every input, and its arguments read as before.
  Conditions: none.
-/
import Derived.Test.YtfkjfdmepeahnaaLwc
namespace Go.Proofs.Ytfkjfdmepeahnaa.headersChain
set_option maxRecDepth 100000
open Go.ChangeShapes Go.WideShapes Go.ChangeAt Go.RowKit Go.Proofs.Ytfkjfdmepeahnaa.Hd Ops

set_option linter.unusedSimpArgs false in
set_option maxHeartbeats 16000000 in
theorem walk_all (next p : Int) (mc : Bool) (A : Option Addr) (n c : Nat) (zs : List Int) (w : World) (hs : Slc w (.slice A n c) zs) (hl : zs.length = n) (hz : Byt zs) (h5 : n ≤ 5000) (hn : 0 ≤ next ∧ next ≤ 255) (hp : 0 ≤ p ∧ p ≤ 4294967295) :
    Calls Try.prog 5 #[.agg #[.int .u8 next, .int .u32 p, .bool mc], .slice A n c] w fun e w' => e = .returned (.bool true) ∧ Below w.heap.size w w' := by
  have Y0 := (Lay.begin w).new [.int .u8 next, .int .u32 p, .bool mc] 50 (g := w.heap.size) rfl
  have K := veil (twinB A n c zs (w.alloc (.cells [.int .u8 next, .int .u32 p, .bool mc].toArray 50)) hl (by omega) (slc_rd (hs.keep Y0.below)).1)
  have i3 : ¬ (5000 : Int) < (n : Int) := by omega
  have n16 : n ≤ 16000000 := by omega
  have HS := veil hs
  have HL := veil hl
  have HZ := veil hz
  have VY0 := veil Y0
  clear hs hl hz Y0
  go_enter Try.func5, Try.ntmps5
  go_wp2_with fail
  refine (K.out).mono ?_
  rintro e w1 ⟨g, hg, rfl, t1, q⟩
  have Y1 := VY0.out.got q t1 hg
  have hw : w.heap.size ≤ g := Nat.le_trans VY0.out.size hg
  have hgl : g < w1.heap.size := Y1.lt mem0
  have x0 : w1.cell? ⟨w.heap.size, 0, none⟩ = some (.int .u8 next) := Y1.look mem1 rfl
  have x1 : w1.cell? ⟨w.heap.size, 1, none⟩ = some (.int .u32 p) := Y1.look mem1 rfl
  have x2 : w1.cell? ⟨w.heap.size, 2, none⟩ = some (.bool mc) := Y1.look mem1 rfl
  have K1 := codeChain next zs (some ⟨g, 0, none⟩) n (n + 4) p mc w1 hn (TwinAt.rd t1) HL.out HZ.out n16 hp
  have K2 := fun u hb => chain_any next zs A n c p mc u hn (HS.out.keep (w' := u) hb) HZ.out n16 hp
  unfold Told6 at K1
  unfold Tells at K2
  have hg0 := VY0.out.lt mem0
  have VN := veil hn
  have VP := veil hp
  generalize hT : chain next zs p mc = T at *
  have VT := veil hT
  replace K1 := veil K1
  replace K2 := veil K2
  have VY := veil Y1
  clear q t1 Y1 K VY0 hT hn hp hg
  go_wp2_with fail
  refine (K1.out).mono ?_
  rintro e w2 ⟨A2, n2, rfl, hR, q⟩
  have hn2 := veil (rest_len hR)
  have VR := veil hR
  obtain ⟨ZF, hZF⟩ : ∃ Z : Array Value, Z = #[.bool false, .int .u32 0, .int .u16 0, .bool false] := ⟨_, rfl⟩
  obtain ⟨ZX, hZX⟩ : ∃ Z : Array Value, Z = #[.int .u8 0, .int .u32 0] := ⟨_, rfl⟩
  have hzf : Hid (ZF.toList.length = 4) := by rw [hZF]; exact rfl
  have hzx : Hid (ZX.toList.length = 2) := by rw [hZX]; exact rfl
  have Y2 := VY.out.keep q
  have Y3 := (Y2.newA ZF 27 (g := w2.heap.size) rfl).newA ZX 45 (g := w2.heap.size + 1) (by simp)
  have T1 := veil (store_all (P := Try.prog) (ty := 27) (vs := fgc T.frag) (Y3.at mem1) (by rw [hzf.out]; rfl) (Hd.sizeFr4 _) (one_fg _))
  have Y4 := Y3.put 1 rfl (fgc T.frag)
  simp only [List.set_cons_zero, List.set_cons_succ] at Y4
  have T2 := veil (store_all (P := Try.prog) (ty := 45) (vs := flc T.code T.place) (Y4.at mem0) (by rw [hzx.out]; rfl) (sizeFl _ _) (one_fl _ _))
  have Y5 := Y4.put 0 rfl (flc T.code T.place)
  simp only [List.set_cons_zero, List.set_cons_succ] at Y5
  have qs := below_setRow (below_setRow ((below_new w2 (.cells ZF 27)).trans ((below_new _ (.cells ZX 45)).mono (by simp))) w2.heap.size (fgc T.frag).toArray (Nat.le_refl _)) (w2.heap.size + 1) (flc T.code T.place).toArray (by omega)
  obtain ⟨u2, hu⟩ : ∃ u, (((w2.alloc (.cells ZF 27)).alloc (.cells ZX 45)).setRow w2.heap.size (fgc T.frag).toArray).setRow (w2.heap.size + 1) (flc T.code T.place).toArray = u := ⟨_, rfl⟩
  rw [hu] at T2 Y5 qs
  have x3 : u2.cell? ⟨w.heap.size, 0, none⟩ = some (.int .u8 next) := Y5.look mem3 rfl
  have x4 : u2.cell? ⟨w.heap.size, 1, none⟩ = some (.int .u32 p) := Y5.look mem3 rfl
  have x5 : u2.cell? ⟨w.heap.size, 2, none⟩ = some (.bool mc) := Y5.look mem3 rfl
  have K3 := veil (K2.out u2 Y5.below)
  have VQ := veil qs
  have VY2 := veil Y5
  clear K1 K2 q qs Y2 Y3 Y4 Y5 hu hR x0 x1 x2 VY
  generalize ZF.toList = ZFL at *
  generalize ZX.toList = ZXL at *
  subst hZF hZX
  go_wp2_with (first
    | (refine wpList_store_of rfl _ _ rfl rfl rfl T1.out ?_)
    | (refine wpList_store_of rfl _ _ rfl rfl rfl T2.out ?_))
  clear T1 T2 hzf hzx
  refine (K3.out).mono ?_
  rintro e w3 ⟨A3, n3, c3, rfl, hs3, hf3, q3⟩
  obtain rfl : n3 = n2 := (slc_len hs3).trans hn2.out.symm
  have Y6 := VY2.out.keep q3
  obtain ⟨Z, hZ⟩ : ∃ Z, Z = zt := ⟨_, rfl⟩
  have hz : Hid (Z.toList.length = 10) := by rw [hZ]; exact rfl
  have Y7 := Y6.newA Z 54 (g := w3.heap.size) rfl
  have T3 := veil (told_store (t := T) (v := .slice A3 n3 c3) Y7 mem0 hz.out rfl)
  have Y8 := Y7.put 0 rfl (tc T (.slice A3 n3 c3))
  simp only [List.set_cons_zero] at Y8
  have q4 := below_setRow (below_new w3 (.cells Z 54)) w3.heap.size (tc T (.slice A3 n3 c3)).toArray (Nat.le_refl _)
  obtain ⟨u3, hu3⟩ : ∃ u, (w3.alloc (.cells Z 54)).setRow w3.heap.size (tc T (.slice A3 n3 c3)).toArray = u := ⟨_, rfl⟩
  rw [hu3] at T3 Y8 q4
  have qw : Below w2.heap.size w2 u3 := VQ.out.trans ((q3.trans (q4.mono q3.size)).mono VQ.out.size)
  have S := veil (sameBytes_eq A2 A3 n3 n3 c3 T.rest u3 hn2.out.symm (by have := walk_rest_le next zs p (teller p) (decide (p = 40)) mc false; rw [show walk next zs p (teller p) (decide (p = 40)) mc false = T from VT.out] at this; unfold maxLen; have := HL.out; have := hn2.out; omega) (slc_rd ((rest_slc VR.out).keep qw)).1 (slc_rd (hs3.keep q4)).1)
  have V5 := veil (show n3 ≤ 5000 by have := walk_rest_le next zs p (teller p) (decide (p = 40)) mc false; rw [show walk next zs p (teller p) (decide (p = 40)) mc false = T from VT.out] at this; have := HL.out; have := hn2.out; omega)
  have y0 : u3.cell? ⟨w3.heap.size, 0, none⟩ = some (.int .u8 T.last) := Y8.look mem0 rfl
  have y1 : u3.cell? ⟨w3.heap.size, 1, none⟩ = some (.slice A3 n3 c3) := Y8.look mem0 rfl
  have V8 := veil Y8
  have VRR : Hid (RestOf w1 u3 T.rest A2 n3) := veil (by
    rcases VR.out with h | ⟨b, o, zs', h1, h2, h3, h4⟩
    · exact .inl h
    · exact .inr ⟨b, o, zs', h1, h2, h3.keep qw, h4⟩)
  have hw1 : Hid (g < w1.heap.size) := veil hgl
  clear K3 hs3 hf3 q3 Y6 Y7 Y8 q4 hu3 qw VY2 VQ VR x3 x4 x5 hn2
  generalize Z.toList = ZL at *
  unfold zt at hZ
  subst hZ
  go_wp2_with (refine wpList_store_of rfl _ _ rfl rfl rfl T3.out ?_)
  clear T3 hz
  refine (S.out).mono ?_
  rintro e w4 ⟨rfl, st⟩
  have Y9 := V8.out.still st
  have y2 : w4.cell? ⟨w3.heap.size, 2, none⟩ = some (.bool T.alert) := Y9.look mem0 rfl
  have y9 : w4.cell? ⟨w3.heap.size, 9, none⟩ = some (.int .i64 T.e) := Y9.look mem0 rfl
  have L1 := veil (Y9.load mem2 (part_all _) Try.underlying27 rfl (Hd.sizeFr4 _))
  have L2 := veil (Y9.load mem0 (tc_frag T _) Try.underlying27 rfl (Hd.sizeFr4 _))
  have L3 := veil (Y9.load mem1 (part_all _) Try.underlying45 rfl (sizeFl _ _))
  have L4 := veil (Y9.load mem0 (tc_flt T _) Try.underlying45 rfl (sizeFl _ _))
  have E1 := fun u => frag_neq T.frag u
  have E2 := fun u => flt_neq T.code T.place u
  have KL := veil (leftBytes_true g A n (n + 4) c zs w4 HL.out n16 (Y9.at mem3) (slc_rd (HS.out.keep Y9.below)).1 (Nat.le_refl _))
  replace VRR : Hid (RestOf w1 w4 T.rest A2 n3) := veil (by
    rcases VRR.out with h | ⟨b, o, zs', h1, h2, h3, h4⟩
    · exact .inl h
    · exact .inr ⟨b, o, zs', h1, h2, (by obtain ⟨q, rfl⟩ := st; exact h3), h4⟩)
  have VY := veil Y9
  clear S V8 st Y9 y0 y1
  generalize w3.heap.size = g3 at *
  generalize fgc T.frag = fc1 at *
  generalize flc T.code T.place = fc2 at *
  go_wp2_with (first
    | (refine wpList_load_of rfl (.tmp 9) rfl rfl L1.out ?_)
    | (refine wpList_load_of rfl (.tmp 62) rfl rfl L2.out ?_)
    | (refine wpList_load_of rfl (.tmp 10) rfl rfl L3.out ?_)
    | (refine wpList_load_of rfl (.tmp 68) rfl rfl L4.out ?_))
  refine (KL.out).mono ?_
  rintro e w5 ⟨rfl, hst⟩
  have Y1 := VY.out.still hst
  replace VRR : Hid (RestOf w1 w5 T.rest A2 n3) := veil (by
    rcases VRR.out with h | ⟨b, o, zs', h1, h2, h3, h4⟩
    · exact .inl h
    · exact .inr ⟨b, o, zs', h1, h2, (by obtain ⟨q, rfl⟩ := hst; exact h3), h4⟩)
  clear hst KL L1 L2 L3 L4 E1 E2 y2 y9
  have YG := Y1.sub (L' := [(g, 5, bv (zs ++ List.replicate 4 199))]) (List.Sublist.cons _ (List.Sublist.cons _ (List.Sublist.cons _ (List.Sublist.cons_cons _ (List.nil_sublist _)))))
  clear VY Y1
  rcases VRR.out with ⟨hA, hn0, _⟩ | ⟨b, o, zs', hA, hb, hrow, _, ho⟩
  · subst hA hn0
    have VY := veil YG
    clear YG VRR
    go_wp2_with fail
    have hB := book_new w5
    have Y1 := VY.out.keep (below_new w5 (.cells #[.slice none 0 0] 40))
    have s6 : w5.heap.size ≤ (w5.alloc (.cells #[.slice none 0 0] 40)).heap.size := by simp
    have s5 : w.heap.size ≤ w5.heap.size := VY.out.size
    generalize w5.alloc (.cells #[.slice none 0 0] 40) = w6 at *
    generalize w5.heap.size = kb at *
    clear VY
    refine (note_any w6 kb kb [] _ _ _ hB (by simp) s6).mono ?_
    rintro e w7 ⟨rfl, ⟨x7, y7, hB7⟩, hf7⟩
    have Y2 := Y1.bfB hf7 s5 (by rfl)
    have s7 : kb ≤ w7.heap.size := Nat.le_trans s6 hf7.1.size
    have VY := veil Y2
    have HB := veil hB7
    clear hB hB7 hf7 Y1 Y2 s6
    go_wp2_with fail
    refine (note_any w7 kb kb _ _ _ _ HB.out (by simp) s7).mono ?_
    rintro e w8 ⟨rfl, ⟨x8, y8, hB8⟩, hf8⟩
    have Y3 := VY.out.bfB hf8 s5 (by rfl)
    have hA : Hid (Calls Try.prog 16 #[.pointer (some ⟨kb, 0, none⟩)] w8 fun e w' => e = .returned (.bool true) ∧ Below w.heap.size w w') := by
      have hl' := HL.out
      refine apart_any w.heap.size w w8 kb kb _ hB8 (by simp) Y3.below Y3.below.size ?_ ?_ ?_
      · intro i L hi
        match i with
        | 0 => simp at hi; subst hi; exact ⟨by simp, by simp; omega, fun _ => ⟨_, _, _, rfl, Y3.at mem0, by simp [bv_length, hl']⟩⟩
        | 1 => simp at hi; subst hi; exact ⟨by simp, by simp, fun h => by simp at h⟩
        | i + 2 => simp at hi
      · intro i j L M hi hj hij b1 o1 o2 h3 h4
        exfalso
        match i, j with
        | 0, 0 => exact hij rfl
        | 1, 1 => exact hij rfl
        | 0, 1 => simp at hi hj; subst hi hj; simp at h4
        | 1, 0 => simp at hi hj; subst hi hj; simp at h3
        | i + 2, _ => simp at hi
        | 0, j + 2 => simp at hj
        | 1, j + 2 => simp at hj
      · intro i L a hi ha
        match i with
        | 0 => simp at hi; subst hi; simp at ha; subst ha; exact hw
        | 1 => simp at hi; subst hi; simp at ha
        | i + 2 => simp at hi
    clear hB8 hf8 HB Y3 VY
    go_wp2_with fail
    refine (hA.out).mono ?_
    rintro e w9 ⟨rfl, b9⟩
    clear hA
    go_wp2_with fail
    refine (lives_true _).mono ?_
    rintro e w10 ⟨rfl, q⟩
    go_wp2_with fail
    go_ret
    exact ⟨rfl, b9.trans (q.mono b9.size)⟩
  · subst hA
    have hbg : g ≠ b := by have := hw1.out; omega
    have hwb : w.heap.size ≤ b := by have := hw1.out; omega
    have VY := veil (YG.add hrow hwb (fun x hx => by simp at hx; subst hx; exact hbg))
    have VO := veil ho
    clear YG VRR hrow ho
    go_wp2_with fail
    have hB := book_new w5
    have Y1 := VY.out.keep (below_new w5 (.cells #[.slice none 0 0] 40))
    have s6 : w5.heap.size ≤ (w5.alloc (.cells #[.slice none 0 0] 40)).heap.size := by simp
    have s5 : w.heap.size ≤ w5.heap.size := VY.out.size
    generalize w5.alloc (.cells #[.slice none 0 0] 40) = w6 at *
    generalize w5.heap.size = kb at *
    clear VY
    refine (note_any w6 kb kb [] _ _ _ hB (by simp) s6).mono ?_
    rintro e w7 ⟨rfl, ⟨x7, y7, hB7⟩, hf7⟩
    have Y2 := Y1.bfB hf7 s5 (by rfl)
    have s7 : kb ≤ w7.heap.size := Nat.le_trans s6 hf7.1.size
    have VY := veil Y2
    have HB := veil hB7
    clear hB hB7 hf7 Y1 Y2 s6
    go_wp2_with fail
    refine (note_any w7 kb kb _ _ _ _ HB.out (by simp) s7).mono ?_
    rintro e w8 ⟨rfl, ⟨x8, y8, hB8⟩, hf8⟩
    have Y3 := VY.out.bfB hf8 s5 (by rfl)
    have hA : Hid (Calls Try.prog 16 #[.pointer (some ⟨kb, 0, none⟩)] w8 fun e w' => e = .returned (.bool true) ∧ Below w.heap.size w w') := by
      have hl' := HL.out
      refine apart_any w.heap.size w w8 kb kb _ hB8 (by simp) Y3.below Y3.below.size ?_ ?_ ?_
      · intro i L hi
        match i with
        | 0 => simp at hi; subst hi; exact ⟨by simp, by simp; omega, fun _ => ⟨_, _, _, rfl, Y3.at mem1, by simp [bv_length, hl']⟩⟩
        | 1 => simp at hi; subst hi; exact ⟨by simp, by simp; have := V5.out; omega, fun _ => ⟨_, _, _, rfl, Y3.at mem0, by simp [bv_length]; exact VO.out⟩⟩
        | i + 2 => simp at hi
      · intro i j L M hi hj hij b1 o1 o2 h3 h4
        exfalso
        match i, j with
        | 0, 0 => exact hij rfl
        | 1, 1 => exact hij rfl
        | 0, 1 => simp at hi hj; subst hi hj; simp at h3 h4; omega
        | 1, 0 => simp at hi hj; subst hi hj; simp at h3 h4; omega
        | i + 2, _ => simp at hi
        | 0, j + 2 => simp at hj
        | 1, j + 2 => simp at hj
      · intro i L a hi ha
        match i with
        | 0 => simp at hi; subst hi; simp at ha; subst ha; exact hw
        | 1 => simp at hi; subst hi; simp at ha; subst ha; exact hwb
        | i + 2 => simp at hi
    clear hB8 hf8 HB Y3 VY
    go_wp2_with fail
    refine (hA.out).mono ?_
    rintro e w9 ⟨rfl, b9⟩
    clear hA
    go_wp2_with fail
    refine (lives_true _).mono ?_
    rintro e w10 ⟨rfl, q⟩
    go_wp2_with fail
    go_ret
    exact ⟨rfl, b9.trans (q.mono b9.size)⟩

/-- more than are gone through -/
theorem walk_more (x : Value) (A : Option Addr) (n c : Nat) (w : World) (nx p : Int) (mc : Bool) (hx : x = .agg #[.int .u8 nx, .int .u32 p, .bool mc]) (h : 5000 < n) :
    Calls Try.prog 5 #[x, .slice A n c] w fun e w' => e = .returned (.bool true) ∧ Below w.heap.size w w' := by
  subst hx
  have i3 : (5000 : Int) < (n : Int) := by omega
  have Q := veil (below_new w (.cells #[.int .u8 nx, .int .u32 p, .bool mc] 50))
  go_enter Try.func5, Try.ntmps5
  go_wp2_with fail
  refine (lives_true _).mono ?_
  rintro e w1 ⟨rfl, q⟩
  go_wp2_with fail
  go_ret
  exact ⟨rfl, Q.out.trans (q.mono Q.out.size)⟩

theorem own : ownKnob Try.prog.godebug = none := by kernel_rfl
theorem readable : ∀ t ∈ Try.f5.params.toList, Try.prog.readableRec t = true ∧ t < Try.prog.types.size := by
  rw [Try.params5]
  intro t ht
  simp at ht
  rcases ht with rfl | rfl
  · exact ⟨by kernel_rfl, of_decide_eq_true (by kernel_rfl)⟩
  · exact ⟨by kernel_rfl, of_decide_eq_true (by kernel_rfl)⟩

set_option maxRecDepth 100000 in
theorem lifted (os : Os) (started : os.Started) (H : Type) (enc : TypeId × Value → H) :
    ReturnsInHanded {} Try.checked os 5 .any (Rows.headersChainSpec.pre6 enc Try.prog Try.f5 Rows.headersChainRow.domain false) (Rows.headersChainSpec.post enc Try.prog Try.f5 false true false false) := by
  refine returnsInHanded_of_change_sized (C := Try.checked) own started (by kernel_rfl) Try.func5
    (ChangeSpec.witness6 (enc := enc) (C := Try.checked) false ⟨#[], #[.agg #[.int .u8 0, .int .u32 0, .bool false], .slice none 0 0], []⟩ 8 (by kernel_rfl) (by kernel_rfl) (by kernel_rfl) (by kernel_rfl)) ?_
  intro W base args ds gs before hval0 hW _ hsz0 _
  have hval : ∀ (j : Nat) t v, Try.f5.params[j]? = some t → args[j]? = some v → Value.okWide Try.prog W .any base t v := hval0
  have hW' := hW
  obtain ⟨p, q, hA0, hV, rfl, _, _⟩ := hW
  have hA : DataW.TrodAll enc Try.prog W 0 (fun _ => true) true Try.f5.params.toList args.toList ds p := hA0
  rw [Try.params5] at hA hval
  obtain ⟨v0, vs0, d0, ds0, p0, q0, hargs, rfl, rfl, h0, r0⟩ := trodAll_cons hA
  obtain ⟨v1, vs1, d1, ds1, p1, q1, rfl, rfl, rfl, h1, r1⟩ := trodAll_cons r0
  obtain ⟨rfl, rfl, rfl⟩ := trodAll_nil r1
  obtain rfl : args = #[v0, v1] := by cases args; simp_all
  obtain ⟨rfl, rfl⟩ := trodVars_none hV
  obtain ⟨nx, p, mc, rfl, hn, hp⟩ := open_place (hval 0 50 v0 rfl rfl) (opens_arg h0 (slim_of hsz0 (j := 0) rfl rfl))
  obtain ⟨A, n, c, zs, rfl, hs, hl, hy⟩ := Hd.open_bytes (hval 1 28 v1 rfl rfl) (opens_arg h1 (slim_of hsz0 (j := 1) rfl rfl))
  have hw : Calls Try.prog 5 #[.agg #[.int .u8 nx, .int .u32 p, .bool mc], .slice A n c] W fun e w' => e = .returned (.bool true) ∧ Below W.heap.size W w' := by
    rcases (by omega : 5000 < n ∨ n ≤ 5000) with h | h
    · exact walk_more _ A n c W nx p mc rfl h
    · exact walk_all nx p mc A n c zs W hs hl hy h hn hp
  refine hw.mono fun e W' ⟨he, hb⟩ => ?_
  subst he
  exact ⟨_, rfl, law_post (by kernel_rfl) rfl rfl Try.underlying4 readable hW' rfl hb⟩

/-- HeadersChain, as given -/
theorem holds : Rows.HeadersChainSaid :=
  OpenClaim.holds_of_wide 5 Try.f5 rfl rfl rfl rfl rfl rfl rfl ⟨rfl, rfl, rfl, rfl, rfl⟩ rfl rfl rfl rfl rfl (by kernel_rfl) Try.func5 (by kernel_rfl)
    (of_decide_eq_true (by kernel_rfl)) (by unfold Func.isWrapper; first | (rw [if_pos (by decide +kernel)]; kernel_rfl) | (rw [if_neg (by decide +kernel)]; exact ⟨rfl, rfl⟩))
    (fun os started H enc _ => lifted os started H enc)

#print axioms holds
end Go.Proofs.Ytfkjfdmepeahnaa.headersChain
