/-
  The reference's four and side: decimals as two groups; the groups of a side.
  Conditions: texts of at most 1000 bytes.
-/
import Derived.Test.YtfaaogidbpfelaaDoorTxtX
namespace Go.Proofs.YtfaaogidbpfelaaDoor.Tx
open Go.RowKit Ad

/-- numbers of the call's own, and nothing that was there has changed -/
def GivesI (w : World) (gs : List Nat) (e : Ending) (w' : World) : Prop := ∃ A m c, e = .returned (.slice A m c) ∧ m = gs.length ∧ I64.Own w' w.heap.size (.slice A m c) (ints gs) ∧ Below w.heap.size w w'
theorem givesI_nil {w w' : World} (h : Below w.heap.size w w') : GivesI w [] (.returned (.slice none 0 0)) w' := ⟨none, 0, 0, rfl, rfl, I64.own_nil _ _, h⟩
theorem own64 (w : World) {base : Nat} (l : List Nat) (h : base ≤ w.heap.size) (hl : l.length ≤ maxLen) : I64.Own (w.alloc (.cells (I64.bv (ints l)).toArray 3)) base (.slice (some ⟨w.heap.size, 0, none⟩) l.length l.length) (ints l) := by
  refine ⟨by simp [I64.bv], .inr ⟨w.heap.size, l.length, (I64.bv (ints l)).toArray, by rw [ints_len], h, heap_alloc_new w _, by rw [ints_len]; exact Nat.le_refl _, hl, by simp [I64.bv, ints], ?_⟩⟩
  rw [List.take_of_length_le (by simp [I64.bv])]
theorem iown_cells {w : World} {base : Nat} {A : Option Addr} {n c : Nat} {zs : List Int} (h : I64.Own w base (.slice A n c) zs) (h0 : 0 < n) : n = zs.length ∧ ∃ g, A = some ⟨g, 0, none⟩ ∧ ∀ j, j < n → w.cell? ⟨g, j, none⟩ = some (.int .i64 (zs.getD j 0)) := by
  rcases h.2 with ⟨e, h0'⟩ | ⟨g, cap, cur, e, _, hg, hc, _, _, ht⟩
  · injection e with _ e2 _
    omega
  · injection e with e1 e2 e3
    subst e1 e2
    refine ⟨rfl, g, rfl, fun j hj => ?_⟩
    have hr : Row w g 3 cur := hg
    have e := I64.bv_get zs j hj
    rw [← ht, List.getElem?_take, if_pos (by omega)] at e
    rw [hr.cell]
    simpa using e
theorem words_len (c : UInt8) : ∀ s : Str, (words c s).length ≤ s.length + 1
  | [] => by simp [words]
  | x :: r => by
    have ih := words_len c r
    unfold words
    split
    · simp; exact ih
    · split
      · rename_i h t e
        rw [e] at ih
        simp at ih ⊢
        omega
      · simp
theorem words_each (c : UInt8) : ∀ s : Str, ∀ w ∈ words c s, w.length ≤ s.length
  | [] => by simp [words]
  | x :: r => by
    have ih := words_each c r
    unfold words
    split
    · intro w hw
      rcases List.mem_cons.1 hw with rfl | hw
      · simp
      · have := ih w hw; simp; omega
    · split
      · rename_i h t e
        rw [e] at ih
        intro w hw
        rcases List.mem_cons.1 hw with rfl | hw
        · have := ih h (by simp); simp; omega
        · have := ih w (by simp [hw]); simp; omega
      · simp
theorem fours_none {s : Str} {j : Nat} (h4 : (words 46 s).length = 4) (hj : j < 4) (hd : dec ((words 46 s).getD j []) = none) : fours s = none := by
  unfold fours
  match hw : words 46 s, h4 with
  | [a, b, c, d], _ =>
    rw [hw] at hd
    simp only
    have : j = 0 ∨ j = 1 ∨ j = 2 ∨ j = 3 := by omega
    rcases this with rfl | rfl | rfl | rfl
    · rw [show dec a = none from hd]
    · rw [show dec b = none from hd]; cases dec a <;> rfl
    · rw [show dec c = none from hd]; cases dec a <;> cases dec b <;> rfl
    · rw [show dec d = none from hd]; cases dec a <;> cases dec b <;> cases dec c <;> rfl
theorem fours_other {s : Str} (h4 : (words 46 s).length ≠ 4) : fours s = none := by
  unfold fours
  split
  · rename_i e
    rw [e] at h4
    exact absurd rfl h4
  · rfl
theorem fours_all {s : Str} {a b c d : Nat} (h : (words 46 s).map dec = [some a, some b, some c, some d]) : fours s = some [a * 256 + b, c * 256 + d] := by
  unfold fours
  have hl := congrArg List.length h
  simp at hl
  match hw : words 46 s, hl with
  | [w, x, y, z], _ =>
    rw [hw] at h
    simp at h
    obtain ⟨h1, h2, h3, h4⟩ := h
    simp only [h1, h2, h3, h4]
theorem dec_num {s : Str} {v : Nat} (hn : num 10 3 s = some v) (hv : v ≤ 255) (h0 : ¬ (1 < s.length ∧ s.head? = some 48)) : dec s = some v := by
  unfold dec
  rw [if_neg h0, hn]
  simp [hv]
theorem dec_bad {s : Str} (h : num 10 3 s = none ∨ (∃ v, num 10 3 s = some v ∧ 255 < v) ∨ (1 < s.length ∧ s.head? = some 48)) : dec s = none := by
  unfold dec
  split
  · rfl
  · rename_i h0
    rcases h with h | ⟨v, h, hv⟩ | h
    · rw [h]
    · rw [h]; simp; omega
    · exact absurd h h0
theorem num10_lt {s : Str} {v : Nat} (h : num 10 3 s = some v) : v < 1000 := by
  have go : ∀ (t : Str) (n u : Nat), numF 10 n t = some u → u + 1 ≤ (n + 1) * 10 ^ t.length := by
    intro t
    induction t with
    | nil => intro n u h; rw [numF] at h; injection h with h; subst h; simp
    | cons b r ih =>
      intro n u h
      rw [numF] at h
      split at h
      · rename_i hd
        have := ih _ _ h
        rw [List.length_cons, Nat.pow_succ]
        have h2 : (n * 10 + dig b + 1) * 10 ^ r.length ≤ ((n + 1) * 10) * 10 ^ r.length := Nat.mul_le_mul_right _ (by omega)
        rw [Nat.mul_comm (10 ^ r.length) 10, ← Nat.mul_assoc]
        omega
      · cases h
  unfold num at h
  split at h
  · cases h
  · rename_i h0
    have := go _ _ _ h
    have h3 : s.length ≤ 3 := by
      rcases Nat.lt_or_ge 3 s.length with q | q
      · exact absurd (Or.inr q) h0
      · exact q
    have := Nat.pow_le_pow_right (n := 10) (by omega) h3
    omega
theorem map_next {ws : List Str} {j : Nat} (hj : j < ws.length) (f : Str → Option Nat) : (ws.take (j + 1)).map f = (ws.take j).map f ++ [f (ws.getD j [])] := by
  rw [List.take_add_one, List.map_append, List.getElem?_eq_getElem hj]
  simp only [List.getD, List.getElem?_eq_getElem hj, Option.getD_some, Option.toList_some, List.map_cons, List.map_nil]
theorem head_at {s : Str} (h : 0 < s.length) : s.head? = some (s.getD 0 0) := by
  rw [List.head?_eq_getElem?, List.getElem?_eq_getElem h]
  simp only [List.getD, List.getElem?_eq_getElem h, Option.getD_some]
theorem getD_mem {ws : List Str} {j : Nat} (h : j < ws.length) : ws.getD j [] ∈ ws := by simp [List.getD, h]

set_option maxRecDepth 100000 in
set_option maxHeartbeats 4000000 in
theorem four_any (s : Str) (w : World) (hs : s.length ≤ 1000) : Calls Tryd.prog 34 #[.string (bs s)] w (GivesI w ((fours s).getD [])) := by
  have K0 := veil (split_any 46 s w hs)
  have HE : Hid (∀ x ∈ words 46 s, x.length ≤ 1000) := fun x hx => Nat.le_trans (words_each 46 s x hx) hs
  have e46 : ((46 : UInt8).toNat : Int) = 46 := rfl
  rw [e46] at K0
  clear hs e46
  obtain ⟨R, hR⟩ : ∃ R, fours s = R := ⟨_, rfl⟩
  have HRR := veil hR
  rw [hR]
  clear hR
  go_enter Tryd.func34, Tryd.ntmps34
  go_wp2_with fail
  refine (K0.out).mono ?_
  rintro e w1 ⟨A, m, c, rfl, hm, hO, hB⟩
  clear K0
  by_cases h4 : m = 4
  · subst h4
    obtain ⟨h_, g, rfl, hcell⟩ := hO.cells (by omega)
    clear h_
    have HC := veil hcell
    have HB := veil hB
    have HM := veil hm
    clear hm hO hB hcell
    obtain ⟨ws, hws⟩ : ∃ ws, words 46 s = ws := ⟨_, rfl⟩
    have HW := veil hws
    rw [hws] at HC HM HE
    clear hws
    go_wp2_with fail
    go_loopw [4, 5] (fun l i wr => ∃ (A2 : Option Addr) (j c2 : Nat) (vs : List Nat), j ≤ 4 ∧ l = .slice A2 j c2 ∧ i = .int .i64 j ∧ Hid (vs.length = j ∧ (ws.take j).map dec = vs.map some ∧ (∀ v ∈ vs, v ≤ 255) ∧ I64.Own wr w1.heap.size (.slice A2 j c2) (ints vs) ∧ Below w1.heap.size w1 wr)) (fun _ i _ => 4 - (intOf i).toNat)
    case atStart => exact ⟨none, 0, 0, [], by omega, rfl, rfl, rfl, rfl, by simp, I64.own_nil _ _, Below.refl _ _⟩
    case round =>
      obtain ⟨A2, j, c2, vs, hj, rfl, rfl, hH⟩ := hrel
      obtain ⟨hvl, hvd, hv255, hO, hB⟩ := hH.out
      by_cases hlt : j < 4
      · have hcl := HC.out j hlt
        have hcl : wr.cell? ⟨g, j, none⟩ = some (.string (bs (ws.getD j []))) := by rw [hB.cell (block_lt_of_cell hcl), hcl]
        have hwl : j < ws.length := by rw [← HM.out]; exact hlt
        have hnx := map_next hwl dec
        have hxl := HE.out _ (getD_mem hwl)
        have hdn : dec (ws.getD j []) = none → R = none := fun h => by rw [← HRR.out]; exact fours_none (by rw [HW.out, ← HM.out]) hlt (by rw [HW.out]; exact h)
        have hBw : Below w.heap.size w wr := HB.out.trans (hB.mono HB.out.size)
        generalize ws.getD j [] = x at *
        have K := veil (rnumber_any 10 3 (.inr ⟨rfl, rfl⟩) x wr hxl)
        have hxs := bs_size x
        obtain ⟨n, hn⟩ : ∃ n, x.length = n := ⟨_, rfl⟩
        rw [hn] at hxs
        have hj' : (j : Int) < 4 := by omega
        have p1 : ¬ ((j : Int) < 0) := by omega
        have p3 : (j : Int).toNat = j := by omega
        have hn1 : (n : Int) ≤ 1000 := by omega
        have fail_ : dec x = none → Hid (R = none) ∧ Hid (Below w.heap.size w wr) := fun h => ⟨hdn h, hBw⟩
        cases ho : num 10 3 x with
        | none =>
          obtain ⟨HR0, HB0⟩ := fail_ (dec_bad (.inl ho))
          rw [ho] at K
          have K : Hid (Calls Tryd.prog 33 #[.string (bs x), .int .i64 10, .int .i64 3] wr fun e w' => e = .returned (.int .i64 (-1)) ∧ wr = w') := K
          clear hH hvl hvd hv255 hO hB hwl hnx hxl hdn hBw fail_ ho hn
          go_wp2_with fail
          refine (K.out).mono ?_
          rintro e w2 ⟨rfl, rfl⟩
          go_wp2_with fail
          go_ret
          rw [HR0.out]
          exact givesI_nil HB0.out
        | some v =>
          have hv1000 := num10_lt ho
          rw [ho] at K
          have K : Hid (Calls Tryd.prog 33 #[.string (bs x), .int .i64 10, .int .i64 3] wr fun e w' => e = .returned (.int .i64 (v : Int)) ∧ wr = w') := K
          have v0 : ¬ (v : Int) < 0 := by omega
          by_cases hv : v ≤ 255
          · have hv' : ¬ (255 : Int) < (v : Int) := by omega
            by_cases h48 : 1 < x.length ∧ x.head? = some 48
            · obtain ⟨HR0, HB0⟩ := fail_ (dec_bad (.inr (.inr h48)))
              have hn2 : (1 : Int) < (n : Int) := by omega
              have hix : ∀ u, (Instr.index 9 (.string (bs x)) (.int .i64 0)).run Tryd.prog u = .ok (.int .u8 48) u := fun u => by
                have := index_str x (i := 0) (by omega) u
                have e := h48.2
                rw [head_at (by omega)] at e
                injection e with e
                rw [e] at this
                exact this
              clear hH hvl hvd hv255 hO hB hwl hnx hxl hdn hBw fail_ ho hn h48
              go_wp2_with fail
              refine (K.out).mono ?_
              rintro e w2 ⟨rfl, rfl⟩
              go_wp2_with fail
              go_ret
              rw [HR0.out]
              exact givesI_nil HB0.out
            · have hdx := dec_num ho hv h48
              rw [hdx] at hnx
              have q2 := below_new wr (.cells #[.int .i64 (v : Int)] 3)
              have r2 := row_new (w := wr) (g := wr.heap.size) (cs := #[.int .i64 (v : Int)]) (t := 3) rfl
              have hsz2 : (wr.alloc (.cells #[.int .i64 (v : Int)] 3)).heap.size = wr.heap.size + 1 := by simp
              obtain ⟨v', w3, H3, hO3, hgb, _⟩ := I64.run_append_slc (wr.alloc (.cells #[.int .i64 (v : Int)] 3)) w1.heap.size 47 (.slice A2 j c2) (.slice (some ⟨wr.heap.size, 0, none⟩) 1 1) (ints vs) [(v : Int)] (hO.keep q2) (.inr ⟨_, 1, rfl, I64.rd_lit r2 rfl, by simp⟩) (by rw [ints_len]; simp; omega) (by rw [hsz2]; have := hB.size; omega)
              have hO4 : I64.Own w3 w1.heap.size v' (ints (vs ++ [v])) := by rw [ints_app]; exact hO3
              obtain ⟨A', c', e'⟩ := own_ints hO4
              rw [ints_len, List.length_append, hvl, List.length_singleton] at e'
              subst e'
              have ob := I64.own_below (W := w1) (hO.keep q2) hgb (hB.trans (q2.mono hB.size)) (by rw [hsz2]; have := hB.size; omega)
              have HR3 := veil (show (vs ++ [v]).length = j + 1 ∧ (ws.take (j + 1)).map dec = (vs ++ [v]).map some ∧ (∀ u ∈ vs ++ [v], u ≤ 255) ∧ I64.Own w3 w1.heap.size (.slice A' (j + 1) c') (ints (vs ++ [v])) ∧ Below w1.heap.size w1 w3 from
                ⟨by simp [hvl], by rw [hnx, hvd]; simp, (fun u hu => by rcases List.mem_append.1 hu with hu | hu; exact hv255 u hu; simp at hu; omega), hO4, ob⟩)
              have HA := veil H3
              by_cases hn2 : 1 < n
              · have hn2' : (1 : Int) < (n : Int) := by omega
                have hix : ∀ u, (Instr.index 9 (.string (bs x)) (.int .i64 0)).run Tryd.prog u = .ok (.int .u8 ((x.getD 0 0).toNat : Int)) u := fun u => index_str x (i := 0) (by omega) u
                have h0 : ¬ ((x.getD 0 0).toNat : Int) = 48 := fun e => h48 ⟨by omega, by rw [head_at (by omega)]; exact congrArg some (UInt8.toNat_inj.1 (by show _ = 48; omega))⟩
                generalize (x.getD 0 0).toNat = y at *
                have b0 : ((y : Int) == 48) = false := by simp [h0]
                clear hH hvl hvd hv255 hO hB hwl hnx hxl hdn hBw fail_ ho hn h48 hdx q2 r2 hsz2 H3 hO3 hgb hO4 ob hv1000
                go_wp2_with fail
                refine (K.out).mono ?_
                rintro e w2 ⟨rfl, rfl⟩
                go_wp2_with (first
                  | (at_builtin
                     refine Ops.wpList_append_w rfl (.tmp 43) (.tmp 45) rfl rfl rfl HA.out ?_))
                go_roundw
                case rel => exact ⟨A', j + 1, c', vs ++ [v], by omega, rfl, by go_num, HR3.out⟩
                case measure => simp [intOf]; omega
              · have hn2' : ¬ (1 : Int) < (n : Int) := by omega
                clear hH hvl hvd hv255 hO hB hwl hnx hxl hdn hBw fail_ ho hn h48 hdx q2 r2 hsz2 H3 hO3 hgb hO4 ob hv1000
                go_wp2_with fail
                refine (K.out).mono ?_
                rintro e w2 ⟨rfl, rfl⟩
                go_wp2_with (first
                  | (at_builtin
                     refine Ops.wpList_append_w rfl (.tmp 43) (.tmp 45) rfl rfl rfl HA.out ?_))
                go_roundw
                case rel => exact ⟨A', j + 1, c', vs ++ [v], by omega, rfl, by go_num, HR3.out⟩
                case measure => simp [intOf]; omega
          · obtain ⟨HR0, HB0⟩ := fail_ (dec_bad (.inr (.inl ⟨v, ho, by omega⟩)))
            have hv' : (255 : Int) < (v : Int) := by omega
            clear hH hvl hvd hv255 hO hB hwl hnx hxl hdn hBw fail_ ho hn
            go_wp2_with fail
            refine (K.out).mono ?_
            rintro e w2 ⟨rfl, rfl⟩
            go_wp2_with fail
            go_ret
            rw [HR0.out]
            exact givesI_nil HB0.out
      · obtain rfl : j = 4 := by omega
        match vs, hvl with
        | [a, b, x, y], _ =>
          have hws4 : (words 46 s).map dec = [some a, some b, some x, some y] := by
            rw [HW.out, ← List.take_of_length_le (l := ws) (i := 4) (by rw [← HM.out]; omega), hvd]
            rfl
          have HR0 : Hid (R = some [a * 256 + b, x * 256 + y]) := by unfold Hid; rw [← HRR.out]; exact fours_all hws4
          have ba := hv255 a (by simp)
          have bb := hv255 b (by simp)
          have bx := hv255 x (by simp)
          have by_ := hv255 y (by simp)
          obtain ⟨h_, ad, rfl, hrd⟩ := iown_cells hO (by omega)
          clear h_
          have d0 : wr.drew.cell? ⟨ad, 0, none⟩ = some (.int .i64 (a : Int)) := hrd 0 (by omega)
          have d1 : wr.drew.cell? ⟨ad, 1, none⟩ = some (.int .i64 (b : Int)) := hrd 1 (by omega)
          have d2 : wr.drew.cell? ⟨ad, 2, none⟩ = some (.int .i64 (x : Int)) := hrd 2 (by omega)
          have d3 : wr.drew.cell? ⟨ad, 3, none⟩ = some (.int .i64 (y : Int)) := hrd 3 (by omega)
          obtain ⟨p, hp⟩ : ∃ p, a * 256 + b = p := ⟨_, rfl⟩
          obtain ⟨q, hq⟩ : ∃ q, x * 256 + y = q := ⟨_, rfl⟩
          obtain ⟨a2, ha2⟩ : ∃ a2, 256 * a = a2 := ⟨_, rfl⟩
          obtain ⟨x2, hx2⟩ : ∃ x2, 256 * x = x2 := ⟨_, rfl⟩
          rw [hp, hq] at HR0
          have m1 : IntKind.i64.wrap (256 * (a : Int)) = (a2 : Int) := by rw [IntWalk.i64_in _ (by omega)]; omega
          have m2 : IntKind.i64.wrap ((a2 : Int) + (b : Int)) = (p : Int) := by rw [IntWalk.i64_in _ (by omega)]; omega
          have m3 : IntKind.i64.wrap (256 * (x : Int)) = (x2 : Int) := by rw [IntWalk.i64_in _ (by omega)]; omega
          have m4 : IntKind.i64.wrap ((x2 : Int) + (y : Int)) = (q : Int) := by rw [IntWalk.i64_in _ (by omega)]; omega
          have bw : Below w.heap.size w wr.drew := still_below (HB.out.trans (hB.mono HB.out.size))
          have q2 := below_new wr.drew (.cells #[.int .i64 (p : Int), .int .i64 (q : Int)] 3)
          have hO5 : I64.Own (wr.drew.alloc (.cells #[.int .i64 (p : Int), .int .i64 (q : Int)] 3)) w.heap.size (.slice (some ⟨wr.drew.heap.size, 0, none⟩) 2 2) (ints [p, q]) := own64 wr.drew [p, q] bw.size (by simp [maxLen])
          have B5 := bw.trans (q2.mono bw.size)
          have hlt0 := block_lt_of_cell d0
          have hlt1 := block_lt_of_cell d1
          have hlt2 := block_lt_of_cell d2
          have hlt3 := block_lt_of_cell d3
          have C1 : Hid (wr.drew.cell? ⟨ad, 0, none⟩ = some (.int .i64 (a : Int)) ∧ wr.drew.cell? ⟨ad, 1, none⟩ = some (.int .i64 (b : Int)) ∧ wr.drew.cell? ⟨ad, 2, none⟩ = some (.int .i64 (x : Int)) ∧ wr.drew.cell? ⟨ad, 3, none⟩ = some (.int .i64 (y : Int))) := ⟨d0, d1, d2, d3⟩
          have C2 : Hid ((wr.drew.alloc (.cells #[.int .i64 (p : Int), .int .i64 (q : Int)] 3)).cell? ⟨ad, 0, none⟩ = some (.int .i64 (a : Int)) ∧ (wr.drew.alloc (.cells #[.int .i64 (p : Int), .int .i64 (q : Int)] 3)).cell? ⟨ad, 1, none⟩ = some (.int .i64 (b : Int)) ∧ (wr.drew.alloc (.cells #[.int .i64 (p : Int), .int .i64 (q : Int)] 3)).cell? ⟨ad, 2, none⟩ = some (.int .i64 (x : Int)) ∧ (wr.drew.alloc (.cells #[.int .i64 (p : Int), .int .i64 (q : Int)] 3)).cell? ⟨ad, 3, none⟩ = some (.int .i64 (y : Int))) := ⟨(q2.cell hlt0).trans d0, (q2.cell hlt1).trans d1, (q2.cell hlt2).trans d2, (q2.cell hlt3).trans d3⟩
          have HO5 := veil hO5
          have HB5 := veil B5
          clear hH hvd hv255 hO hB hws4 ba bb bx by_ hrd d0 d1 d2 d3 hp hq ha2 hx2 bw q2 hO5 B5 hlt0 hlt1 hlt2 hlt3
          go_wp2_with fail
          go_region_held3 (fun w' => w'.cell? ⟨ad, 0, none⟩ = some (.int .i64 (a : Int)) ∧ w'.cell? ⟨ad, 1, none⟩ = some (.int .i64 (b : Int)) ∧ w'.cell? ⟨ad, 2, none⟩ = some (.int .i64 (x : Int)) ∧ w'.cell? ⟨ad, 3, none⟩ = some (.int .i64 (y : Int))) (first | exact C1.out | exact C2.out)
            (first
              | fail)
          clear C1 C2
          go_wp2_with fail
          go_ret
          rw [HR0.out]
          exact ⟨_, 2, 2, rfl, rfl, HO5.out, HB5.out⟩
  · have HB := veil hB
    have HR0 : Hid (R = none) := HRR.out.symm.trans <| fours_other (fun h => h4 (by rw [hm, h]))
    have hm4 : ¬ (m : Int) = 4 := by omega
    clear hm hO hB
    go_wp2_with fail
    go_ret
    rw [HR0.out]
    exact givesI_nil HB.out
end Go.Proofs.YtfaaogidbpfelaaDoor.Tx
