/-
  HeadersGet: whatever bytes there are, their packet, or what is wrong, and where, is the chapter's; they stay, and nothing is shared: the law returns true for every input, and its arguments read as before.
  Conditions: none.
-/
import Derived.Test.YtfkjfdmepeahnaaLwc
import Derived.Test.YtfkjfdmepeahnaaGetR
namespace Go.Proofs.Ytfkjfdmepeahnaa.headersGet
set_option maxRecDepth 100000
open Go.ChangeShapes Go.WideShapes Go.ChangeAt Go.RowKit Go.Proofs.Ytfkjfdmepeahnaa.Hd Ops

theorem gotR_eq (zs : List Int) : gotR zs = if (tellB zs).e = 0 ∨ (tellB zs).e = 7 then (gotK zs, (tellB zs).rest, (tellB zs).code, (tellB zs).place, (tellB zs).e) else (noPk, [], 0, 0, (tellB zs).e) := by
  obtain ⟨h1, h2⟩ := tell_alone zs
  unfold gotR
  by_cases h7 : (tellB zs).e = 7
  · obtain ⟨hf, hl, hr⟩ := h1 h7
    rw [if_pos h7, if_pos (.inr h7)]
    unfold gotK
    rw [hf, hl, hr]
    rfl
  · obtain ⟨hc, hp⟩ := h2 h7
    by_cases h0 : (tellB zs).e = 0
    · rw [if_neg h7, if_pos h0, if_pos (.inl h0), hc, hp, h0]
    · rw [if_neg h7, if_neg h0, if_neg (fun h => h.elim h0 h7), hc, hp]
theorem refGet (A : Option Addr) (n c : Nat) (zs : List Int) (w : World) (hs : Slc w (.slice A n c) zs) (hz : Byt zs) (hl : zs.length = n) (hn : n ≤ 16000000) :
    Calls Try.prog 19 #[.slice A n c] w (GotR w (getB zs).1 (getB zs).2.1 (getB zs).2.2.1 (getB zs).2.2.2.1 (getB zs).2.2.2.2) := by
  unfold getB
  rw [hl]
  by_cases h1 : n < 40
  · rw [if_pos h1]
    exact refGet_short A n c zs w hs hz hl hn h1
  rw [if_neg h1]
  by_cases h2 : zs.getD 0 0 / 16 = 6
  · rw [if_neg (fun h => h h2)]
    by_cases h3 : n < 40 + manyB zs
    · rw [if_pos h3]
      exact refGet_less A n c zs w hs hz hl hn (by omega) h2 h3
    rw [if_neg h3, ← gotR_eq]
    exact refGet_rest A n c zs w hs hz hl hn (by omega) h2 (by omega)
  · rw [if_pos h2]
    exact refGet_form A n c zs w hs hz hl hn (by omega) h2

theorem get_ends (zs : List Int) : Hd.Ends (getB zs).1 := by
  unfold getB
  split
  · exact noPk_ends
  split
  · exact noPk_ends
  split
  · exact noPk_ends
  split
  · have h := base_ends (zs := zs) (by omega)
    exact ⟨h.s, h.d⟩
  · exact noPk_ends
theorem get_len (zs : List Int) : (getB zs).2.1.length ≤ zs.length := by
  unfold getB
  split
  · simp
  split
  · simp
  split
  · simp
  split
  · refine Nat.le_trans (walk_rest_le _ _ _ _ _ _ _) ?_
    simp
    omega
  · simp

set_option linter.unusedSimpArgs false in
set_option maxHeartbeats 16000000 in
theorem walk_all (A : Option Addr) (n c : Nat) (zs : List Int) (w : World) (hs : Slc w (.slice A n c) zs) (hl : zs.length = n) (hz : Byt zs) (h5 : n ≤ 5000) :
    Calls Try.prog 4 #[.slice A n c] w fun e w' => e = .returned (.bool true) ∧ Below w.heap.size w w' := by
  have K := veil (twinB A n c zs w hl (by omega) (slc_rd hs).1)
  have i3 : ¬ (5000 : Int) < (n : Int) := by omega
  have n16 : n ≤ 16000000 := by omega
  have HS := veil hs
  have HL := veil hl
  have HZ := veil hz
  clear hs hl hz
  go_enter Try.func4, Try.ntmps4
  go_wp2_with fail
  refine (K.out).mono ?_
  rintro e w1 ⟨g, hg, rfl, t1, q⟩
  have Y1 := (Lay.begin w).got q t1 hg
  have hw : w.heap.size ≤ g := hg
  have hw1 : Hid (g < w1.heap.size) := veil (Y1.lt mem0)
  have S1 : Slc w1 (.slice (some ⟨g, 0, none⟩) n (n + 4)) zs := .inr ⟨_, n + 4, by rw [HL.out], TwinAt.rd (Y1.at mem0), by rw [HL.out]; omega⟩
  have K1 := codeGet (some ⟨g, 0, none⟩) n (n + 4) zs w1 S1 HZ.out HL.out n16
  have K2 := fun u hb => refGet A n c zs u (HS.out.keep (w' := u) hb) HZ.out HL.out n16
  have ME0 := get_ends zs
  have RL0 := get_len zs
  obtain ⟨kk, rs, cc, pp, er, hG⟩ : ∃ k rs c p er, getB zs = (k, rs, c, p, er) := ⟨_, _, _, _, _, rfl⟩
  rw [hG] at ME0 RL0
  simp only [hG] at K1 K2
  unfold GotB at K1
  unfold GotR at K2
  have ME := veil ME0
  have RL := veil (show rs.length ≤ n by have := HL.out; simp only at RL0; omega)
  replace K1 := veil K1
  replace K2 := veil K2
  have VY := veil Y1
  clear q t1 Y1 K hG hg S1 ME0 RL0
  go_wp2_with fail
  refine (K1.out).mono ?_
  rintro e w2 ⟨A2, n2, rfl, hR, q⟩
  have hn2 := veil (rest_len hR)
  have VR := veil hR
  have hb2 : Hid (∀ b o, A2 = some ⟨b, o, none⟩ → b < w2.heap.size) := veil (by
    rcases hR with ⟨h, _, _⟩ | ⟨b, o, zs', h1, h2, h3, h4⟩
    · intro b o h'; rw [h] at h'; cases h'
    · intro b' o' h'
      rw [h1] at h'
      injection h' with h'
      injection h' with h' _ _
      subst h'
      exact h3.lt)
  obtain ⟨ZF, hZF⟩ : ∃ Z : Array Value, Z = zp := ⟨_, rfl⟩
  obtain ⟨ZX, hZX⟩ : ∃ Z : Array Value, Z = #[.int .u8 0, .int .u32 0] := ⟨_, rfl⟩
  have hzf : Hid (ZF.toList.length = 40) := by rw [hZF]; exact rfl
  have hzx : Hid (ZX.toList.length = 2) := by rw [hZX]; exact rfl
  have Y2 := VY.out.keep q
  have Y3 := (Y2.newA ZF 30 (g := w2.heap.size) rfl).newA ZX 45 (g := w2.heap.size + 1) (by simp)
  have T1 := veil (pkt_store (k := kk) (v := .slice A2 n2 n2) Y3 mem1 hzf.out ME.out rfl)
  have Y4 := Y3.put 1 rfl (pc kk (.slice A2 n2 n2))
  simp only [List.set_cons_zero, List.set_cons_succ] at Y4
  have T2 := veil (store_all (P := Try.prog) (ty := 45) (vs := flc cc pp) (Y4.at mem0) (by rw [hzx.out]; rfl) (sizeFl _ _) (one_fl _ _))
  have Y5 := Y4.put 0 rfl (flc cc pp)
  simp only [List.set_cons_zero, List.set_cons_succ] at Y5
  have qs := below_setRow (below_setRow ((below_new w2 (.cells ZF 30)).trans ((below_new _ (.cells ZX 45)).mono (by simp))) w2.heap.size (pc kk (.slice A2 n2 n2)).toArray (Nat.le_refl _)) (w2.heap.size + 1) (flc cc pp).toArray (by omega)
  obtain ⟨u2, hu⟩ : ∃ u, (((w2.alloc (.cells ZF 30)).alloc (.cells ZX 45)).setRow w2.heap.size (pc kk (.slice A2 n2 n2)).toArray).setRow (w2.heap.size + 1) (flc cc pp).toArray = u := ⟨_, rfl⟩
  rw [hu] at T2 Y5 qs
  have K3 := veil (K2.out u2 Y5.below)
  have VQ := veil qs
  have VY2 := veil Y5
  clear K1 K2 q qs Y2 Y3 Y4 Y5 hu hR VY
  generalize ZF.toList = ZFL at *
  generalize ZX.toList = ZXL at *
  unfold zp at hZF
  subst hZF hZX
  go_wp2_with (first
    | (refine wpList_store_of rfl _ _ rfl rfl rfl T1.out ?_)
    | (refine wpList_store_of rfl _ _ rfl rfl rfl T2.out ?_))
  clear T1 T2 hzf hzx
  refine (K3.out).mono ?_
  rintro e w3 ⟨A3, n3, c3, rfl, hs3, hf3, q3⟩
  obtain rfl : n3 = n2 := (slc_len hs3).trans hn2.out.symm
  have Y6 := VY2.out.keep q3
  obtain ⟨ZF, hZF⟩ : ∃ Z : Array Value, Z = zp := ⟨_, rfl⟩
  obtain ⟨ZX, hZX⟩ : ∃ Z : Array Value, Z = #[.int .u8 0, .int .u32 0] := ⟨_, rfl⟩
  have hzf : Hid (ZF.toList.length = 40) := by rw [hZF]; exact rfl
  have hzx : Hid (ZX.toList.length = 2) := by rw [hZX]; exact rfl
  have Y3 := (Y6.newA ZF 30 (g := w3.heap.size) rfl).newA ZX 45 (g := w3.heap.size + 1) (by simp)
  have T1 := veil (pkt_store (k := kk) (v := .slice A3 n3 c3) Y3 mem1 hzf.out ME.out rfl)
  have Y4 := Y3.put 1 rfl (pc kk (.slice A3 n3 c3))
  simp only [List.set_cons_zero, List.set_cons_succ] at Y4
  have T2 := veil (store_all (P := Try.prog) (ty := 45) (vs := flc cc pp) (Y4.at mem0) (by rw [hzx.out]; rfl) (sizeFl _ _) (one_fl _ _))
  have Y5 := Y4.put 0 rfl (flc cc pp)
  simp only [List.set_cons_zero, List.set_cons_succ] at Y5
  have q4 := below_setRow (below_setRow ((below_new w3 (.cells ZF 30)).trans ((below_new _ (.cells ZX 45)).mono (by simp))) w3.heap.size (pc kk (.slice A3 n3 c3)).toArray (Nat.le_refl _)) (w3.heap.size + 1) (flc cc pp).toArray (by omega)
  obtain ⟨u3, hu3⟩ : ∃ u, (((w3.alloc (.cells ZF 30)).alloc (.cells ZX 45)).setRow w3.heap.size (pc kk (.slice A3 n3 c3)).toArray).setRow (w3.heap.size + 1) (flc cc pp).toArray = u := ⟨_, rfl⟩
  rw [hu3] at T2 Y5 q4
  have qw : Below w2.heap.size w2 u3 := VQ.out.trans ((q3.trans (q4.mono q3.size)).mono VQ.out.size)
  have V5 := veil (show n3 ≤ 5000 by have := RL.out; have := hn2.out; omega)
  have S := veil (samePacket_true kk A2 A3 n3 n3 c3 rs u3 ME.out hn2.out.symm (by have := V5.out; unfold maxLen; omega) (slc_rd ((rest_slc VR.out).keep qw)).1 (slc_rd (hs3.keep q4)).1)
  have L1 := veil (pktAt Y5 mem3 ME.out).all
  have L2 := veil (pktAt Y5 mem1 ME.out).all
  have V8 := veil Y5
  have VRR : Hid (RestOf w1 u3 rs A2 n3) := veil (by
    rcases VR.out with h | ⟨b, o, zs', h1, h2, h3, h4⟩
    · exact .inl h
    · exact .inr ⟨b, o, zs', h1, h2, h3.keep qw, h4⟩)
  clear K3 hs3 hf3 q3 Y3 Y4 Y5 Y6 q4 hu3 qw VY2 VQ VR hn2
  generalize ZF.toList = ZFL at *
  generalize ZX.toList = ZXL at *
  unfold zp at hZF
  subst hZF hZX
  go_wp2_with (first
    | (refine wpList_store_of rfl _ _ rfl rfl rfl T1.out ?_)
    | (refine wpList_store_of rfl _ _ rfl rfl rfl T2.out ?_)
    | (refine wpList_load_of rfl (.tmp 4) rfl rfl L1.out ?_)
    | (refine wpList_load_of rfl (.tmp 7) rfl rfl L2.out ?_))
  clear T1 T2 hzf hzx L1 L2
  refine (S.out).mono ?_
  rintro e w4 ⟨rfl, st⟩
  have Y9 := V8.out.keep st
  have L3 := veil (Y9.load mem2 (part_all _) Try.underlying45 rfl (sizeFl _ _))
  have L4 := veil (Y9.load mem0 (part_all _) Try.underlying45 rfl (sizeFl _ _))
  have E2 := fun u => flt_neq cc pp u
  have KL := veil (leftBytes_true g A n (n + 4) c zs w4 HL.out n16 (Y9.at mem4) (slc_rd (HS.out.keep Y9.below)).1 (Nat.le_refl _))
  replace VRR : Hid (RestOf w1 w4 rs A2 n3) := veil (by
    rcases VRR.out with h | ⟨b, o, zs', h1, h2, h3, h4⟩
    · exact .inl h
    · exact .inr ⟨b, o, zs', h1, h2, h3.keep st, h4⟩)
  have VY := veil Y9
  clear S V8 st Y9
  generalize w3.heap.size = g3 at *
  obtain ⟨gp, hgp⟩ : ∃ x, w2.heap.size = x := ⟨_, rfl⟩
  rw [hgp] at hb2
  simp only [hgp] at *
  clear hgp
  generalize flc cc pp = fc2 at *
  go_wp2_with (first
    | (refine wpList_load_of rfl (.tmp 5) rfl rfl L3.out ?_)
    | (refine wpList_load_of rfl (.tmp 8) rfl rfl L4.out ?_))
  refine (KL.out).mono ?_
  rintro e w5 ⟨rfl, hst⟩
  have Y1 := VY.out.still hst
  replace VRR : Hid (RestOf w1 w5 rs A2 n3) := veil (by
    rcases VRR.out with h | ⟨b, o, zs', h1, h2, h3, h4⟩
    · exact .inl h
    · exact .inr ⟨b, o, zs', h1, h2, (by obtain ⟨q, rfl⟩ := hst; exact h3), h4⟩)
  clear hst KL L3 L4 E2
  have YG := Y1.sub (L' := [(gp, 30, pc kk (.slice A2 n3 n3)), (g, 5, bv (zs ++ List.replicate 4 199))]) (List.Sublist.cons _ (List.Sublist.cons _ (List.Sublist.cons _ (List.Sublist.cons_cons _ (List.Sublist.cons_cons _ (List.nil_sublist _))))))
  clear VY Y1
  rcases VRR.out with ⟨hA, hn0, _⟩ | ⟨b, o, zs', hA, hb, hrow, _, ho⟩
  · subst hA hn0
    have VY := veil YG
    clear YG VRR
    go_wp2_with fail
    have hB := book_new w5
    have Y1 := VY.out.keep (below_new w5 (.cells #[.slice none 0 0] 40))
    have s6 : w5.heap.size ≤ (w5.alloc (.cells #[.slice none 0 0] 40)).heap.size := by simp
    have s5 : w.heap.size ≤ w5.heap.size := VY.out.size
    generalize w5.alloc (.cells #[.slice none 0 0] 40) = w6 at *
    generalize w5.heap.size = kb at *
    clear VY
    refine (note_any w6 kb kb [] _ _ _ hB (by simp) s6).mono ?_
    rintro e w7 ⟨rfl, ⟨x7, y7, hB7⟩, hf7⟩
    have Y2 := Y1.bfB hf7 s5 (by rfl)
    have s7 : kb ≤ w7.heap.size := Nat.le_trans s6 hf7.1.size
    have b7 := Y2.look mem0 (pc_body ME.out)
    have VY := veil Y2
    have HB := veil hB7
    clear hB hB7 hf7 Y1 Y2 s6
    go_wp2_with fail
    refine (note_any w7 kb kb _ _ _ _ HB.out (by simp) s7).mono ?_
    rintro e w8 ⟨rfl, ⟨x8, y8, hB8⟩, hf8⟩
    have Y3 := VY.out.bfB hf8 s5 (by rfl)
    have hA : Hid (Calls Try.prog 16 #[.pointer (some ⟨kb, 0, none⟩)] w8 fun e w' => e = .returned (.bool true) ∧ Below w.heap.size w w') := by
      have hl' := HL.out
      refine apart_any w.heap.size w w8 kb kb _ hB8 (by simp) Y3.below Y3.below.size ?_ ?_ ?_
      · intro i L hi
        match i with
        | 0 => simp at hi; subst hi; exact ⟨by simp, by simp; omega, fun _ => ⟨_, _, _, rfl, Y3.at mem1, by simp [bv_length, hl']⟩⟩
        | 1 => simp at hi; subst hi; exact ⟨by simp, by simp, fun h => by simp at h⟩
        | i + 2 => simp at hi
      · intro i j L M hi hj hij b1 o1 o2 h3 h4
        exfalso
        match i, j with
        | 0, 0 => exact hij rfl
        | 1, 1 => exact hij rfl
        | 0, 1 => simp at hi hj; subst hi hj; simp at h4
        | 1, 0 => simp at hi hj; subst hi hj; simp at h3
        | i + 2, _ => simp at hi
        | 0, j + 2 => simp at hj
        | 1, j + 2 => simp at hj
      · intro i L a hi ha
        match i with
        | 0 => simp at hi; subst hi; simp at ha; subst ha; exact hw
        | 1 => simp at hi; subst hi; simp at ha
        | i + 2 => simp at hi
    clear hB8 hf8 HB Y3 VY
    go_wp2_with fail
    refine (hA.out).mono ?_
    rintro e w9 ⟨rfl, b9⟩
    clear hA
    go_wp2_with fail
    refine (lives_true _).mono ?_
    rintro e w10 ⟨rfl, q⟩
    go_wp2_with fail
    go_ret
    exact ⟨rfl, b9.trans (q.mono b9.size)⟩
  · subst hA
    have hbg : g ≠ b := by have := hw1.out; omega
    have hbp : gp ≠ b := by have := hb2.out b o rfl; omega
    have hwb : w.heap.size ≤ b := by have := hw1.out; omega
    have VY := veil (YG.add hrow hwb (fun x hx => by simp at hx; rcases hx with rfl | rfl <;> assumption))
    have VO := veil ho
    clear YG VRR hrow ho hb2
    go_wp2_with fail
    have hB := book_new w5
    have Y1 := VY.out.keep (below_new w5 (.cells #[.slice none 0 0] 40))
    have s6 : w5.heap.size ≤ (w5.alloc (.cells #[.slice none 0 0] 40)).heap.size := by simp
    have s5 : w.heap.size ≤ w5.heap.size := VY.out.size
    generalize w5.alloc (.cells #[.slice none 0 0] 40) = w6 at *
    generalize w5.heap.size = kb at *
    clear VY
    refine (note_any w6 kb kb [] _ _ _ hB (by simp) s6).mono ?_
    rintro e w7 ⟨rfl, ⟨x7, y7, hB7⟩, hf7⟩
    have Y2 := Y1.bfB hf7 s5 (by rfl)
    have s7 : kb ≤ w7.heap.size := Nat.le_trans s6 hf7.1.size
    have b7 := Y2.look mem1 (pc_body ME.out)
    have VY := veil Y2
    have HB := veil hB7
    clear hB hB7 hf7 Y1 Y2 s6
    go_wp2_with fail
    refine (note_any w7 kb kb _ _ _ _ HB.out (by simp) s7).mono ?_
    rintro e w8 ⟨rfl, ⟨x8, y8, hB8⟩, hf8⟩
    have Y3 := VY.out.bfB hf8 s5 (by rfl)
    have hA : Hid (Calls Try.prog 16 #[.pointer (some ⟨kb, 0, none⟩)] w8 fun e w' => e = .returned (.bool true) ∧ Below w.heap.size w w') := by
      have hl' := HL.out
      refine apart_any w.heap.size w w8 kb kb _ hB8 (by simp) Y3.below Y3.below.size ?_ ?_ ?_
      · intro i L hi
        match i with
        | 0 => simp at hi; subst hi; exact ⟨by simp, by simp; omega, fun _ => ⟨_, _, _, rfl, Y3.at mem2, by simp [bv_length, hl']⟩⟩
        | 1 => simp at hi; subst hi; exact ⟨by simp, by simp; have := V5.out; omega, fun _ => ⟨_, _, _, rfl, Y3.at mem0, by simp [bv_length]; exact VO.out⟩⟩
        | i + 2 => simp at hi
      · intro i j L M hi hj hij b1 o1 o2 h3 h4
        exfalso
        match i, j with
        | 0, 0 => exact hij rfl
        | 1, 1 => exact hij rfl
        | 0, 1 => simp at hi hj; subst hi hj; simp at h3 h4; omega
        | 1, 0 => simp at hi hj; subst hi hj; simp at h3 h4; omega
        | i + 2, _ => simp at hi
        | 0, j + 2 => simp at hj
        | 1, j + 2 => simp at hj
      · intro i L a hi ha
        match i with
        | 0 => simp at hi; subst hi; simp at ha; subst ha; exact hw
        | 1 => simp at hi; subst hi; simp at ha; subst ha; exact hwb
        | i + 2 => simp at hi
    clear hB8 hf8 HB Y3 VY
    go_wp2_with fail
    refine (hA.out).mono ?_
    rintro e w9 ⟨rfl, b9⟩
    clear hA
    go_wp2_with fail
    refine (lives_true _).mono ?_
    rintro e w10 ⟨rfl, q⟩
    go_wp2_with fail
    go_ret
    exact ⟨rfl, b9.trans (q.mono b9.size)⟩


/-- more than are gone through -/
theorem walk_more (A : Option Addr) (n c : Nat) (w : World) (h : 5000 < n) :
    Calls Try.prog 4 #[.slice A n c] w fun e w' => e = .returned (.bool true) ∧ Below w.heap.size w w' := by
  have i3 : (5000 : Int) < (n : Int) := by omega
  go_enter Try.func4, Try.ntmps4
  go_wp2_with fail
  refine (lives_true _).mono ?_
  rintro e w1 ⟨rfl, q⟩
  go_wp2_with fail
  go_ret
  exact ⟨rfl, q⟩

theorem own : ownKnob Try.prog.godebug = none := by kernel_rfl
theorem readable : ∀ t ∈ Try.f4.params.toList, Try.prog.readableRec t = true ∧ t < Try.prog.types.size := by
  rw [Try.params4]
  intro t ht
  simp at ht
  subst ht
  exact ⟨by kernel_rfl, of_decide_eq_true (by kernel_rfl)⟩

set_option maxRecDepth 100000 in
theorem lifted (os : Os) (started : os.Started) (H : Type) (enc : TypeId × Value → H) :
    ReturnsInHanded {} Try.checked os 4 .any (Rows.headersGetSpec.pre6 enc Try.prog Try.f4 Rows.headersGetRow.domain false) (Rows.headersGetSpec.post enc Try.prog Try.f4 false true false false) := by
  refine returnsInHanded_of_change_sized (C := Try.checked) own started (by kernel_rfl) Try.func4
    (ChangeSpec.witness6 (enc := enc) (C := Try.checked) false ⟨#[], #[.slice none 0 0], []⟩ 8 (by kernel_rfl) (by kernel_rfl) (by kernel_rfl) (by kernel_rfl)) ?_
  intro W base args ds gs before hval0 hW _ hsz0 _
  have hval : ∀ (j : Nat) t v, Try.f4.params[j]? = some t → args[j]? = some v → Value.okWide Try.prog W .any base t v := hval0
  have hW' := hW
  obtain ⟨p, q, hA0, hV, rfl, _, _⟩ := hW
  have hA : DataW.TrodAll enc Try.prog W 0 (fun _ => true) true Try.f4.params.toList args.toList ds p := hA0
  rw [Try.params4] at hA hval
  obtain ⟨v0, vs0, d0, ds0, p0, q0, hargs, rfl, rfl, h0, r0⟩ := trodAll_cons hA
  obtain ⟨rfl, rfl, rfl⟩ := trodAll_nil r0
  obtain rfl : args = #[v0] := by cases args; simp_all
  obtain ⟨rfl, rfl⟩ := trodVars_none hV
  obtain ⟨A, n, c, zs, rfl, hs, hl, hy⟩ := Hd.open_bytes (hval 0 28 v0 rfl rfl) (opens_arg h0 (slim_of hsz0 (j := 0) rfl rfl))
  have hw : Calls Try.prog 4 #[.slice A n c] W fun e w' => e = .returned (.bool true) ∧ Below W.heap.size W w' := by
    rcases (by omega : 5000 < n ∨ n ≤ 5000) with h | h
    · exact walk_more A n c W h
    · exact walk_all A n c zs W hs hl hy h
  refine hw.mono fun e W' ⟨he, hb⟩ => ?_
  subst he
  exact ⟨_, rfl, law_post (by kernel_rfl) rfl rfl Try.underlying4 readable hW' rfl hb⟩

/-- HeadersGet, as given -/
theorem holds : Rows.HeadersGetSaid :=
  OpenClaim.holds_of_wide 4 Try.f4 rfl rfl rfl rfl rfl rfl rfl ⟨rfl, rfl, rfl, rfl, rfl⟩ rfl rfl rfl rfl rfl (by kernel_rfl) Try.func4 (by kernel_rfl)
    (of_decide_eq_true (by kernel_rfl)) (by unfold Func.isWrapper; first | (rw [if_pos (by decide +kernel)]; kernel_rfl) | (rw [if_neg (by decide +kernel)]; exact ⟨rfl, rfl⟩))
    (fun os started H enc _ => lifted os started H enc)

#print axioms holds
end Go.Proofs.Ytfkjfdmepeahnaa.headersGet
