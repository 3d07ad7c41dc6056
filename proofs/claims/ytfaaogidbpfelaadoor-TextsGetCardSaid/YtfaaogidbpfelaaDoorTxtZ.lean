/-
  The reference's side: the groups of a side of a text.
  Conditions: texts of at most 1000 bytes.
-/
import Derived.Test.YtfaaogidbpfelaaDoorTxtY
namespace Go.Proofs.YtfaaogidbpfelaaDoor.Tx
open Go.RowKit Ad

/-- a list of numbers and a bool -/
def GivesJ (w : World) (o : Option (List Nat)) (e : Ending) (w' : World) : Prop := ∃ A m c, e = .returned (.tuple #[.slice A m c, .bool o.isSome]) ∧ m = (o.getD []).length ∧ I64.Own w' w.heap.size (.slice A m c) (ints (o.getD [])) ∧ Below w.heap.size w w'
theorem givesJ_none {w w' : World} (h : Below w.heap.size w w') : GivesJ w none (.returned (.tuple #[.slice none 0 0, .bool false])) w' := ⟨none, 0, 0, rfl, rfl, I64.own_nil _ _, h⟩
theorem own_down {w : World} {b b' : Nat} {v : Value} {zs : List Int} (h : I64.Own w b v zs) (hb : b' ≤ b) : I64.Own w b' v zs := by
  refine ⟨h.1, ?_⟩
  rcases h.2 with q | ⟨g, cap, cur, e, h1, h2, h3, h4, h5, h6⟩
  · exact .inl q
  · exact .inr ⟨g, cap, cur, e, Nat.le_trans hb h1, h2, h3, h4, h5, h6⟩
theorem side_yes {last : Bool} {w : Str} {v : Nat} (h : num 16 4 w = some v) (rest : List Str) : side last (w :: rest) = (side last rest).map (v :: ·) := by
  cases rest with
  | nil =>
    show wordR w last = some [v]
    unfold wordR
    rw [if_neg (fun e => num_46 h e.2), h]
    rfl
  | cons k ws =>
    rw [side_cons, h]
    cases side last (k :: ws) <;> rfl
theorem side_one {w : Str} (h : num 16 4 w = none) : side true [w] = fours w := by
  show wordR w true = fours w
  unfold wordR
  by_cases h46 : (46 : UInt8) ∈ w
  · rw [if_pos ⟨rfl, h46⟩]
  · rw [if_neg (fun e => h46 e.2), h]
    symm
    apply fours_other
    rw [words_none h46]
    simp
theorem side_none {w : Str} (h : num 16 4 w = none) : side false [w] = none := by
  show wordR w false = none
  unfold wordR
  simp [h]
theorem num16_lt {s : Str} {v : Nat} (h : num 16 4 s = some v) : v < 65536 := num_lt h
theorem fours_two {s : Str} {l : List Nat} (h : fours s = some l) : l.length = 2 := by
  unfold fours at h
  split at h
  · split at h
    · injection h with h
      subst h
      rfl
    · cases h
  · cases h
theorem drop_word {ws : List Str} {j : Nat} (hj : j < ws.length) : ws.drop j = ws.getD j [] :: ws.drop (j + 1) := by
  rw [List.drop_eq_getElem_cons hj]
  simp only [List.getD, List.getElem?_eq_getElem hj, Option.getD_some]

set_option maxRecDepth 100000 in
set_option maxHeartbeats 4000000 in
theorem rside_any (s : Str) (last : Bool) (w : World) (hs : s.length ≤ 1000) : Calls Tryd.prog 26 #[.string (bs s), .bool last] w (GivesJ w (sideS s last)) := by
  by_cases h0 : s = []
  · subst h0
    have e : bs [] = ⟨#[]⟩ := rfl
    rw [e]
    have HB := veil (Below.refl w.heap.size w)
    go_enter Tryd.func26, Tryd.ntmps26
    go_wp2_with fail
    go_ret2
    exact ⟨none, 0, 0, rfl, rfl, I64.own_nil _ _, HB.out⟩
  · have hb : (bs s).toList.isEmpty = false := by rw [bs_list]; cases s with | nil => exact absurd rfl h0 | cons _ _ => rfl
    have HR0 : Hid (sideS s last = side last (words 58 s)) := by unfold Hid sideS; rw [if_neg h0]
    obtain ⟨R, hR⟩ : ∃ R, sideS s last = R := ⟨_, rfl⟩
    rw [hR] at HR0 ⊢
    have K0 := veil (split_any 58 s w hs)
    have e58 : ((58 : UInt8).toNat : Int) = 58 := rfl
    rw [e58] at K0
    have HE : Hid (∀ x ∈ words 58 s, x.length ≤ 1000) := fun x hx => Nat.le_trans (words_each 58 s x hx) hs
    have hwl := words_len 58 s
    have hwn : 1 ≤ (words 58 s).length := by
      cases hq : words 58 s with
      | nil => exact absurd hq (words_ne 58 s)
      | cons _ _ => simp
    generalize words 58 s = ws at *
    clear e58 hR h0
    go_enter Tryd.func26, Tryd.ntmps26
    go_wp2_with fail
    refine (K0.out).mono ?_
    rintro e w1 ⟨A, m, c, rfl, hm, hO, hB⟩
    obtain ⟨h_, g, rfl, hcell⟩ := hO.cells (by omega)
    have HC := veil hcell
    have HB := veil hB
    have HM := veil hm
    have hm1 : m ≤ 1001 := by omega
    have hm0 : 1 ≤ m := by omega
    have hmi : (m : Int) ≤ 1001 := by omega
    have HM1 : Hid (∀ _ : Unit, m ≤ 1001) := fun _ => hm1
    clear K0 h_ hcell hm hO hB hwl hwn hs hb hm1
    go_wp2_with fail
    go_loopw [6, 8] (fun l i wr => ∃ (A2 : Option Addr) (k j c2 : Nat) (gs : List Nat), j ≤ m ∧ l = .slice A2 k c2 ∧ i = .int .i64 j ∧ Hid (gs.length = k ∧ k ≤ 2 * j ∧ (side last (ws.drop j)).map (gs ++ ·) = R ∧ I64.Own wr w1.heap.size (.slice A2 k c2) (ints gs) ∧ Below w1.heap.size w1 wr)) (fun _ i _ => m - (intOf i).toNat)
    case atStart => exact ⟨none, 0, 0, 0, [], by omega, rfl, rfl, rfl, by omega, by rw [HR0.out]; simp, I64.own_nil _ _, Below.refl _ _⟩
    case round =>
      clear HR0
      obtain ⟨A2, k, j, c2, gs, hj, rfl, rfl, hH⟩ := hrel
      obtain ⟨hgl, hkj, hR, hO, hB⟩ := hH.out
      have hm1 := HM1.out ()
      have hBw : Below w.heap.size w wr := HB.out.trans (hB.mono HB.out.size)
      by_cases hlt : j < m
      · have hcl := HC.out j hlt
        have hcl : wr.cell? ⟨g, j, none⟩ = some (.string (bs (ws.getD j []))) := by rw [hB.cell (block_lt_of_cell hcl), hcl]
        have hwl : j < ws.length := by rw [← HM.out]; exact hlt
        have hdw := drop_word hwl
        have hxl := HE.out _ (getD_mem hwl)
        rw [hdw] at hR
        generalize ws.getD j [] = x at *
        have K := veil (rnumber_any 16 4 (.inl ⟨rfl, rfl⟩) x wr hxl)
        have hj' : (j : Int) < m := by omega
        have p1 : ¬ ((j : Int) < 0) := by omega
        have p3 : (j : Int).toNat = j := by omega
        cases ho : num 16 4 x with
        | some v =>
          rw [side_yes ho] at hR
          have hv := num16_lt ho
          rw [ho] at K
          have K : Hid (Calls Tryd.prog 33 #[.string (bs x), .int .i64 16, .int .i64 4] wr fun e w' => e = .returned (.int .i64 (v : Int)) ∧ wr = w') := K
          have v0 : (0 : Int) ≤ (v : Int) := by omega
          have q2 := below_new wr (.cells #[.int .i64 (v : Int)] 3)
          have r2 := row_new (w := wr) (g := wr.heap.size) (cs := #[.int .i64 (v : Int)]) (t := 3) rfl
          have hsz2 : (wr.alloc (.cells #[.int .i64 (v : Int)] 3)).heap.size = wr.heap.size + 1 := by simp
          obtain ⟨v', w3, H3, hO3, hgb, _⟩ := I64.run_append_slc (wr.alloc (.cells #[.int .i64 (v : Int)] 3)) w1.heap.size 47 (.slice A2 k c2) (.slice (some ⟨wr.heap.size, 0, none⟩) 1 1) (ints gs) [(v : Int)] (hO.keep q2) (.inr ⟨_, 1, rfl, I64.rd_lit r2 rfl, by simp⟩) (by rw [ints_len]; simp; omega) (by rw [hsz2]; have := hB.size; omega)
          have hO4 : I64.Own w3 w1.heap.size v' (ints (gs ++ [v])) := by rw [ints_app]; exact hO3
          obtain ⟨A', c', e'⟩ := own_ints hO4
          rw [ints_len, List.length_append, hgl, List.length_singleton] at e'
          subst e'
          have ob := I64.own_below (W := w1) (hO.keep q2) hgb (hB.trans (q2.mono hB.size)) (by rw [hsz2]; have := hB.size; omega)
          have HR3 := veil (show (gs ++ [v]).length = k + 1 ∧ k + 1 ≤ 2 * (j + 1) ∧ (side last (ws.drop (j + 1))).map ((gs ++ [v]) ++ ·) = R ∧ I64.Own w3 w1.heap.size (.slice A' (k + 1) c') (ints (gs ++ [v])) ∧ Below w1.heap.size w1 w3 from
            ⟨by simp [hgl], by omega, by rw [← hR]; cases side last (ws.drop (j + 1)) <;> simp, hO4, ob⟩)
          have HA := veil H3
          clear hH hgl hR hO hB hBw hwl hdw hxl ho hv q2 r2 hsz2 H3 hO3 hgb hO4 ob hm1 hkj
          go_wp2_with fail
          refine (K.out).mono ?_
          rintro e w2 ⟨rfl, rfl⟩
          go_wp2_with (first
            | (at_builtin
               refine Ops.wpList_append_w rfl (.tmp 29) (.tmp 31) rfl rfl rfl HA.out ?_))
          go_roundw
          case rel => exact ⟨A', k + 1, j + 1, c', gs ++ [v], by omega, rfl, by go_num, HR3.out⟩
          case measure => simp [intOf]; omega
        | none =>
          rw [ho] at K
          have K : Hid (Calls Tryd.prog 33 #[.string (bs x), .int .i64 16, .int .i64 4] wr fun e w' => e = .returned (.int .i64 (-1)) ∧ wr = w') := K
          have K4 := veil (four_any x wr hxl)
          obtain ⟨m1, hm1'⟩ : ∃ m1, m = m1 + 1 := ⟨m - 1, by omega⟩
          have s1 : IntKind.i64.wrap ((m : Int) - 1) = (m1 : Int) := by rw [IntWalk.i64_in _ (by omega)]; omega
          cases last with
          | false =>
            have HR1 : Hid (R = none) := by
              unfold Hid
              rw [← hR]
              cases hd : ws.drop (j + 1) with
              | nil => rw [side_none ho]; rfl
              | cons y r => rw [side_first ho (by simp)]; rfl
            have HBw := veil hBw
            clear hH hgl hR hO hB hBw hwl hdw hxl ho hm1 hkj hm1'
            go_wp2_with fail
            refine (K.out).mono ?_
            rintro e w2 ⟨rfl, rfl⟩
            go_wp2_with fail
            refine (K4.out).mono ?_
            rintro e w3 ⟨A3, m3, c3, rfl, hm3, hO3, hB3⟩
            have HBw := veil (HBw.out.trans (hB3.mono HBw.out.size))
            clear hm3 hO3 hB3
            go_wp2_with fail
            go_ret2
            rw [HR1.out]
            exact givesJ_none HBw.out
          | true =>
            by_cases hj1 : j < m1
            · have HR1 : Hid (R = none) := by
                unfold Hid
                rw [← hR, side_first ho (by
                  intro e
                  have := congrArg List.length e
                  rw [List.length_drop, ← HM.out, List.length_nil] at this
                  omega)]
                rfl
              have hj2 : (j : Int) < m1 := by omega
              have HBw := veil hBw
              clear hH hgl hR hO hB hBw hwl hdw hxl ho hm1 hkj hm1'
              go_wp2_with fail
              refine (K.out).mono ?_
              rintro e w2 ⟨rfl, rfl⟩
              go_wp2_with fail
              refine (K4.out).mono ?_
              rintro e w3 ⟨A3, m3, c3, rfl, hm3, hO3, hB3⟩
              have HBw := veil (HBw.out.trans (hB3.mono HBw.out.size))
              clear hm3 hO3 hB3
              go_wp2_with fail
              go_ret2
              rw [HR1.out]
              exact givesJ_none HBw.out
            · have hj2 : ¬ (j : Int) < m1 := by omega
              have hdn : ws.drop (j + 1) = [] := List.drop_of_length_le (by rw [← HM.out]; omega)
              rw [hdn, side_one ho] at hR
              cases hf : fours x with
              | none =>
                rw [hf] at K4 hR
                have HR1 : Hid (R = none) := hR.symm
                have HBw := veil hBw
                clear hH hgl hR hO hB hBw hwl hdw hxl ho hm1 hkj hm1' hdn hf
                go_wp2_with fail
                refine (K.out).mono ?_
                rintro e w2 ⟨rfl, rfl⟩
                go_wp2_with fail
                refine (K4.out).mono ?_
                rintro e w3 ⟨A3, m3, c3, rfl, hm3, hO3, hB3⟩
                have HBw := veil (HBw.out.trans (hB3.mono HBw.out.size))
                obtain rfl : m3 = 0 := hm3
                clear hO3 hB3
                go_wp2_with fail
                go_ret2
                rw [HR1.out]
                exact givesJ_none HBw.out
              | some l =>
                rw [hf] at K4 hR
                have hl2 := fours_two hf
                have HH := veil (show gs.length = k ∧ k ≤ 2 * j ∧ I64.Own wr w1.heap.size (.slice A2 k c2) (ints gs) ∧ Below w1.heap.size w1 wr ∧ l.length = 2 ∧ R = some (gs ++ l) ∧ m = m1 + 1 from ⟨hgl, hkj, hO, hB, hl2, hR.symm, hm1'⟩)
                clear hH hgl hR hO hB hBw hwl hdw hxl ho hm1 hkj hm1' hdn hf hl2
                go_wp2_with fail
                refine (K.out).mono ?_
                rintro e w2 ⟨rfl, rfl⟩
                go_wp2_with fail
                refine (K4.out).mono ?_
                rintro e w3 ⟨A3, m3, c3, rfl, hm3, hO3, hB3⟩
                obtain ⟨hgl, hkj, hO, hB, hl2, hR, hm1'⟩ := HH.out
                have hm3' : m3 = 2 := by rw [hm3]; exact hl2
                subst hm3'
                have hO3 : I64.Own w3 wr.heap.size (.slice A3 2 c3) (ints l) := hO3
                have hm1 := HM1.out ()
                have hB4 := hB.trans (hB3.mono hB.size)
                obtain ⟨v', w4, H4, hO4, hgb, _⟩ := I64.run_append_slc w3 w1.heap.size 47 (.slice A2 k c2) (.slice A3 2 c3) (ints gs) (ints l) (hO.keep hB3) hO3.slc (by rw [ints_len, ints_len]; omega) (by have := hB4.size; omega)
                have hO5 : I64.Own w4 w1.heap.size v' (ints (gs ++ l)) := by rw [ints_app]; exact hO4
                obtain ⟨A', c', e'⟩ := own_ints hO5
                rw [ints_len, List.length_append, hgl, hl2] at e'
                subst e'
                have ob := I64.own_below (W := w1) (hO.keep hB3) hgb hB4 (by have := hB4.size; omega)
                have HR3 := veil (show (gs ++ l).length = k + 2 ∧ k + 2 ≤ 2 * (j + 1) ∧ (side true (ws.drop (j + 1))).map ((gs ++ l) ++ ·) = R ∧ I64.Own w4 w1.heap.size (.slice A' (k + 2) c') (ints (gs ++ l)) ∧ Below w1.heap.size w1 w4 from
                  ⟨by simp [hgl, hl2], by omega, by rw [List.drop_of_length_le (by rw [← HM.out]; omega), hR]; simp [side], hO5, ob⟩)
                have HA := veil H4
                clear HH hgl hkj hO hB hl2 hR hm1' hO3 hB3 hB4 hO4 hgb hO5 ob hm1 hm3 H4
                go_wp2_with (first
                  | (at_builtin
                     refine Ops.wpList_append_w rfl (.tmp 52) (.tmp 53) rfl rfl rfl HA.out ?_))
                go_roundw
                case rel => exact ⟨A', k + 2, j + 1, c', gs ++ l, by omega, rfl, by go_num, HR3.out⟩
                case measure => simp [intOf]; omega
      · have hR1 : R = some gs := by
          rw [← hR, List.drop_of_length_le (by rw [← HM.out]; omega)]
          simp [side]
        have HR1 := veil (show R = some gs ∧ gs.length = k ∧ I64.Own wr w1.heap.size (.slice A2 k c2) (ints gs) ∧ Below w.heap.size w wr ∧ Below w.heap.size w w1 from ⟨hR1, hgl, hO, hBw, HB.out⟩)
        have hj' : ¬ (j : Int) < m := by omega
        clear hH hgl hkj hR hO hB hBw hm1 hR1
        go_wp2_with fail
        go_ret2
        obtain ⟨h1, h2, h3, h4, h5⟩ := HR1.out
        rw [h1]
        exact ⟨A2, k, c2, rfl, h2.symm, own_down h3 h5.size, h4⟩
end Go.Proofs.YtfaaogidbpfelaaDoor.Tx
