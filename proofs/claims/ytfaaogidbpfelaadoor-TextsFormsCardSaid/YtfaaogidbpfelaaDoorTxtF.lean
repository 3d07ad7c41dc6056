/-
  What Get answers, whatever text it is handed.
  Conditions: a text shorter than 4294967281 bytes.
-/
import Derived.Test.YtfaaogidbpfelaaDoorTxtE
import Derived.Laws.ResultCell
namespace Go.Proofs.YtfaaogidbpfelaaDoor.Tx
open Go.RowKit Ad

/-- what Get answers -/
def gres (o : Option (List Nat)) : Value := match o with
  | some gs => .tuple #[av (bys gs), .int .i64 0]
  | none => .tuple #[av (List.replicate 16 0), .int .i64 4]
theorem side_len {last : Bool} : ∀ {ws : List Str} {l : List Nat}, side last ws = some l → ws.length ≤ l.length
  | [], _, _ => by simp
  | [w], l, h => (wordR_len (show wordR w last = some l from h)).1
  | w :: k :: ws, l, h => by
    rw [side_cons] at h
    split at h
    · split at h
      · rename_i hs
        injection h with h
        subst h
        have := side_len hs
        simp at this ⊢
        omega
      · cases h
    · cases h
theorem side_most {last : Bool} : ∀ {ws : List Str} {l : List Nat}, side last ws = some l → l.length ≤ ws.length + 1
  | [], l, h => by
    injection h with h
    subst h
    simp
  | [w], l, h => (wordR_len (show wordR w last = some l from h)).2
  | w :: k :: ws, l, h => by
    rw [side_cons] at h
    split at h
    · split at h
      · rename_i hs
        injection h with h
        subst h
        have := side_most hs
        simp at this ⊢
        omega
      · cases h
    · cases h
theorem readL_most {s : Str} {last : Bool} {l : List Nat} (h : readL s last = some l) : l.length ≤ 9 := by
  unfold readL at h
  split at h
  · injection h with h
    subst h
    simp
  · split at h
    · have := side_most h
      omega
    · cases h
theorem wordR_lt {s : Str} {last : Bool} {l : List Nat} (h : wordR s last = some l) : ∀ g ∈ l, g < 65536 := by
  unfold wordR at h
  split at h
  · unfold fours at h
    split at h
    · split at h
      · rename_i h1 h2 h3 h4
        injection h with h
        subst h
        have := dec_le h1
        have := dec_le h2
        have := dec_le h3
        have := dec_le h4
        intro g hg
        simp at hg
        omega
      · cases h
    · cases h
  · simp at h
    obtain ⟨v, hv, rfl⟩ := h
    have := num_lt hv
    intro g hg
    simp at hg
    omega
theorem side_lt {last : Bool} : ∀ {ws : List Str} {l : List Nat}, side last ws = some l → ∀ g ∈ l, g < 65536
  | [], l, h => by
    injection h with h
    subst h
    simp
  | [w], l, h => wordR_lt (show wordR w last = some l from h)
  | w :: k :: ws, l, h => by
    rw [side_cons] at h
    split at h
    · rename_i hn
      split at h
      · rename_i hs
        injection h with h
        subst h
        intro g hg
        rcases List.mem_cons.1 hg with rfl | hg
        · exact num_lt hn
        · exact side_lt hs g hg
      · cases h
    · cases h
theorem readL_lt {s : Str} {last : Bool} {l : List Nat} (h : readL s last = some l) : ∀ g ∈ l, g < 65536 := by
  unfold readL at h
  split at h
  · injection h with h
    subst h
    simp
  · split at h
    · exact side_lt h
    · cases h
theorem fill_len {l m : List Nat} (h : l.length + m.length ≤ 8) : (fill l m).length = 8 := by simp [fill]; omega
theorem fill_lt {l m : List Nat} (hl : ∀ g ∈ l, g < 65536) (hm : ∀ g ∈ m, g < 65536) : ∀ g ∈ fill l m, g < 65536 := by
  intro g hg
  unfold fill at hg
  rcases List.mem_append.1 hg with hg | hg
  · rcases List.mem_append.1 hg with hg | hg
    · exact hl g hg
    · have := (List.mem_replicate.1 hg).2
      omega
  · exact hm g hg
theorem readL_side {s : Str} {last : Bool} {l : List Nat} (h : sideS s last = some l) (hl : l.length ≤ 8) : readL s last = some l := by
  unfold sideS at h
  unfold readL
  split
  · rename_i e
    rw [if_pos e] at h
    exact h
  · rename_i e
    rw [if_neg e] at h
    rw [if_pos (Nat.le_trans (side_len h) hl)]
    exact h
theorem readL_long {s : Str} {last : Bool} {l : List Nat} (h : readL s last = some l) : sideS s last = some l := by
  unfold readL at h
  unfold sideS
  split
  · rename_i e
    rw [if_pos e] at h
    exact h
  · rename_i e
    rw [if_neg e] at h
    split at h
    · exact h
    · cases h
/-- what Get finds, by its own steps -/
def getL (s : Str) : Option (List Nat) := match readL (Lib.cut s [58, 58]).1 (!(Lib.cut s [58, 58]).2.2) with
  | none => none
  | some l => match readL (Lib.cut s [58, 58]).2.1 true with
    | none => none
    | some m => if (if (Lib.cut s [58, 58]).2.2 = true then decide (l.length + m.length < 8) else decide (l.length + m.length = 8)) = true then some (fill l m) else none
theorem fill_nil {l : List Nat} (h : l.length = 8) : fill l [] = l := by simp [fill, h]
theorem getL_eq (s : Str) : getL s = get s := by
  unfold getL get
  cases hc : cut2 s with
  | none =>
    rw [cutt_no hc]
    simp only [Bool.not_false]
    have e0 : readL [] true = some [] := rfl
    rw [e0]
    cases h : readL s true with
    | none =>
      cases h2 : sideS s true with
      | none => rfl
      | some l =>
        simp only
        rw [if_neg]
        intro h8
        rw [readL_side h2 (by omega)] at h
        cases h
    | some l =>
      rw [readL_long h]
      simp only [Bool.false_eq_true, if_false, List.length_nil, Nat.add_zero, decide_eq_true_eq]
      by_cases h8 : l.length = 8
      · rw [if_pos h8, if_pos h8, fill_nil h8]
      · rw [if_neg h8, if_neg h8]
  | some p =>
    obtain ⟨a, b⟩ := p
    rw [cutt_yes hc]
    simp only [Bool.not_true, if_true, decide_eq_true_eq]
    cases h : readL a false with
    | none =>
      cases h2 : sideS a false with
      | none => rfl
      | some l =>
        simp only
        cases h3 : sideS b true with
        | none => rfl
        | some m =>
          simp only
          rw [if_neg]
          intro h8
          rw [readL_side h2 (by omega)] at h
          cases h
    | some l =>
      rw [readL_long h]
      simp only
      cases h4 : readL b true with
      | none =>
        cases h3 : sideS b true with
        | none => rfl
        | some m =>
          simp only
          rw [if_neg]
          intro h8
          rw [readL_side h3 (by omega)] at h4
          cases h4
      | some m =>
        rw [readL_long h4]
        simp only
        by_cases h8 : l.length + m.length ≤ 7
        · rw [if_pos (by omega), if_pos h8]
        · rw [if_neg (by omega), if_neg h8]

theorem results_cell_tmp_row {P : Program} {fn : Func} {p u : Tmp} {ty : TypeId} (h : fn.results = #[.cell p ty, .tmp u]) (tmps : Array Value) (w : World) (g : Nat) (t : TypeId) (cs : Array Value) (d : TypeDesc)
    (hp : tmps.getD p undef = .pointer (some ⟨g, 0, none⟩)) (hg : Row w g t cs) (hu : P.underlying ty = some d) (hd : (match d with | .struct _ | .array _ _ => true | _ => false) = true) (hi : (P.info? ty).map (·.size) = some cs.size) :
    (results fn tmps).run P w = .ok (.tuple #[.agg cs, tmps.getD u undef]) w := by
  rw [results_cell_tmp h, hp]
  simp [asAddr, run_loadVar_row w g t ty cs (0, 0) d hg hu hd hi]

/-- copy of groups into a row -/
theorem copy16 (g o N c : Nat) (t : TypeId) (cur : List Value) (A : Option Addr) (n c2 : Nat) (zs : List Int) (w : World) (ty : TypeId) (hl : zs.length = n) (hr : W16.Rd w A zs) (hg : Row w g t cur.toArray) (hn : n ≤ N) (ho : o + n ≤ cur.length) :
    (Builtin.copy_ #[46, 46] ty #[.slice (some ⟨g, o, none⟩) N c, .slice A n c2]).run Tryd.prog w = .ok (goInt n) (w.setRow g (cur.take o ++ W16.bv zs ++ cur.drop (o + n)).toArray) := by
  by_cases h0 : 0 < n
  · exact W16.run_copy_at g o N c t cur A n c2 zs w ty hl hr h0 hg hn ho
  · obtain rfl : n = 0 := by omega
    obtain rfl : zs = [] := List.eq_nil_of_length_eq_zero hl
    obtain ⟨i, hi, hz0, hz1, hz2⟩ := info_parts W16.info_n
    have hsz : (Tryd.prog.info? 36).map (·.size) = some 1 := by rw [hi]; simp [hz1]
    rw [run_copy_none (P := Tryd.prog) w 46 46 ty 36 (some ⟨g, o, none⟩) A N c 0 c2 Tryd.underlying46 hsz (by simp)]
    have e : (cur.take o ++ W16.bv [] ++ cur.drop (o + 0)) = cur := by simp [W16.bv]
    rw [e, setRow_self w g cur.toArray t (0, 0) hg]
    rfl

theorem cur_one (l : List Nat) (m : Nat) : ((W16.bv (List.replicate 8 0)).take 0 ++ W16.bv (ints l) ++ (W16.bv (List.replicate 8 0)).drop (0 + m)) = W16.bv (ints (l ++ List.replicate (8 - m) 0)) := by
  unfold W16.bv ints
  rw [← List.map_drop, List.drop_replicate, Nat.zero_add, List.take_zero, List.nil_append, List.map_append, List.map_append, List.map_replicate, List.map_replicate, List.map_replicate]
  rfl
theorem cur_two {l k : List Nat} {m n : Nat} (h : l.length = m) (hk : k.length = n) (h8 : m + n ≤ 8) : ((W16.bv (ints (l ++ List.replicate (8 - m) 0))).take (8 - n) ++ W16.bv (ints k) ++ (W16.bv (ints (l ++ List.replicate (8 - m) 0))).drop (8 - n + n)) = W16.bv (ints (fill l k)) := by
  have e1 : 8 - n + n = 8 := by omega
  have e2 : (l ++ List.replicate (8 - m) 0).take (8 - n) = l ++ List.replicate (8 - (l.length + k.length)) 0 := by
    rw [List.take_append, List.take_of_length_le (by omega), List.take_replicate, h, hk]
    congr 2
    omega
  rw [e1]
  unfold W16.bv ints fill
  rw [← List.map_take, ← List.map_take, e2, List.drop_of_length_le (by simp [h]; omega)]
  simp
theorem slice_tail {g k m : Nat} (w : World) (hk : k < 8) (hm : 8 - k = m) : (Instr.sliceAt 41 (.pointer (some ⟨g, 0, none⟩)) (some (.int .i64 k)) none none).run Tryd.prog w = .ok (.slice (some ⟨g, k, none⟩) m m) w := by
  have h1 : (k : Int) ≤ 8 := by omega
  have h2 : ¬ 8 = k := by omega
  simp [Instr.sliceAt, run_underlying Tryd.underlying41, go_sem, h1, h2, hm]
theorem slice_end (g : Nat) (w : World) : (Instr.sliceAt 41 (.pointer (some ⟨g, 0, none⟩)) (some (.int .i64 8)) none none).run Tryd.prog w = .ok (.slice (some ⟨g, 0, none⟩) 0 0) w := by kernel_rfl
theorem copy_none16 (g : Nat) (A : Option Addr) (c : Nat) (w : World) (ty : TypeId) : (Builtin.copy_ #[46, 46] ty #[.slice (some ⟨g, 0, none⟩) 0 0, .slice A 0 c]).run Tryd.prog w = .ok (goInt 0) w := by
  obtain ⟨i, hi, hz0, hz1, hz2⟩ := info_parts W16.info_n
  exact run_copy_none (P := Tryd.prog) w 46 46 ty 36 (some ⟨g, 0, none⟩) A 0 0 0 c Tryd.underlying46 (by rw [hi]; simp [hz1]) (by simp)
theorem fill_none (l : List Nat) : fill l [] = l ++ List.replicate (8 - l.length) 0 := by simp [fill]
/-- no address -/
abbrev nil16 : List Int := List.replicate 16 0
theorem build_nil (w : World) : (Instr.build 23 #[]).run Tryd.prog w = .ok (av nil16) w := by kernel_rfl

set_option maxRecDepth 100000 in
set_option maxHeartbeats 2000000 in
theorem get_any (s : Str) (w : World) (hs : s.length < 4294967281) (hm : Mx w) : Calls Tryd.prog 11 #[.string (bs s)] w fun e w' => e = .returned (gres (get s)) ∧ Below w.heap.size w w' := by
  rw [← getL_eq]
  obtain ⟨Z, hZ⟩ : ∃ Z : Array Value, Z = #[.int .u8 0, .int .u8 0, .int .u8 0, .int .u8 0, .int .u8 0, .int .u8 0, .int .u8 0, .int .u8 0, .int .u8 0, .int .u8 0, .int .u8 0, .int .u8 0, .int .u8 0, .int .u8 0, .int .u8 0, .int .u8 0] := ⟨_, rfl⟩
  have hz2 : Hid (Z = (bv (List.replicate 16 0)).toArray) := by rw [hZ]; rfl
  have R := veil (row_new (w := w) (g := w.heap.size) (cs := Z) (t := 23) rfl)
  have B := veil (below_new w (.cells Z 23))
  have M := veil (hm.keep B.out)
  obtain ⟨w1, hw1⟩ : ∃ w1, w.alloc (.cells Z 23) = w1 := ⟨_, rfl⟩
  rw [hw1] at R B M
  have HW : Hid (w.alloc (.cells #[.int .u8 0, .int .u8 0, .int .u8 0, .int .u8 0, .int .u8 0, .int .u8 0, .int .u8 0, .int .u8 0, .int .u8 0, .int .u8 0, .int .u8 0, .int .u8 0, .int .u8 0, .int .u8 0, .int .u8 0, .int .u8 0] 23) = w1) := by rw [← hZ]; exact hw1
  obtain ⟨left, right, cut, hc⟩ : ∃ left right cut, Lib.cut s [58, 58] = (left, right, cut) := ⟨_, _, _, rfl⟩
  have hlen : left.length ≤ s.length ∧ right.length ≤ s.length := by
    cases h2 : cut2 s with
    | none =>
      rw [cutt_no h2] at hc
      injection hc with h1 h3
      injection h3 with h3 h4
      subst h1 h3
      simp
    | some p =>
      obtain ⟨a, b⟩ := p
      have h5 := (index2_yes h2).2
      rw [cutt_yes h2] at hc
      injection hc with h1 h3
      injection h3 with h3 h4
      subst h1 h3
      rw [h5]
      simp
      omega
  have HG := veil (show getL s = match readL left (!cut) with | none => none | some l => match readL right true with | none => none | some m => if (if cut = true then decide (l.length + m.length < 8) else decide (l.length + m.length = 8)) = true then some (fill l m) else none by unfold getL; rw [hc])
  have K1 := veil (fun v (h : Mx v) => cut_any s [58, 58] v hs h hc)
  have e1 : bs [58, 58] = ⟨#[58, 58]⟩ := rfl
  rw [e1] at K1
  have K2 := veil (fun v (h : Mx v) => read_any left (!cut) v (by omega) h)
  have K3 := veil (fun v (h : Mx v) => read_any right true v (by omega) h)
  have hg0 := veil hm.lt
  generalize getL s = G at *
  clear hw1 hZ hm hs hc hlen e1
  go_enter Tryd.func11, Tryd.ntmps11
  go_wp2_with fail
  rw [HW.out]
  clear HW
  refine (K1.out _ M.out).mono ?_
  rintro e w2 ⟨rfl, q, rfl⟩
  clear K1
  have R : Hid (Row (w1.drewN q) w.heap.size 23 Z) := R
  have B := veil (below_still B.out ⟨q, rfl⟩)
  have M : Hid (Mx (w1.drewN q)) := M
  generalize w1.drewN q = w2 at *
  go_wp2_with fail
  refine (K2.out _ M.out).mono ?_
  rintro e w3 ⟨A, m, c, rfl, hml, hO, hB⟩
  clear K2
  have R := veil (R.out.keep hB)
  have M := veil (M.out.keep hB)
  have B := veil (B.out.trans (hB.mono B.out.size))
  clear hB
  cases ho : readL left (!cut) with
  | none =>
    rw [ho] at HG hml
    obtain rfl : m = 0 := hml
    have HG : Hid (G = none) := HG
    clear ho hO K3
    rw [Option.isSome_none]
    have T := veil (store_row R.out (by rw [hz2.out]; rfl) (show nil16.length = 16 from rfl))
    have R5 := veil (R.out.setRow (bv nil16).toArray)
    have Q5 := veil (below_setRow B.out w.heap.size (bv nil16).toArray (Nat.le_refl _))
    have HN := veil build_nil
    go_wp2_with (first
      | (refine wpList_build_of rfl _ _ rfl _ rfl (HN.out _) ?_)
      | (refine wpList_store_of rfl _ _ rfl rfl rfl T.out ?_))
    refine bodyPost_ret (results_cell_tmp_row rfl _ _ w.heap.size _ _ _ rfl R5.out Tryd.underlying23 rfl (by kernel_rfl)) rfl ?_
    exact ⟨by rw [HG.out]; rfl, Q5.out⟩
  | some l =>
    rw [ho] at HG hml hO
    have HG : Hid (G = match readL right true with | none => none | some m => if (if cut = true then decide (l.length + m.length < 8) else decide (l.length + m.length = 8)) = true then some (fill l m) else none) := HG
    replace hml : m = l.length := hml
    have hmb : m ≤ 9 := hml ▸ readL_most ho
    have LT := veil (readL_lt ho)
    replace hO : W16.Own w3 w2.heap.size (.slice A m c) (ints l) := hO
    have S1 := veil hO.slc
    have HL := veil hml
    clear ho hO hml
    rw [Option.isSome_some]
    go_wp2_with fail
    refine (K3.out _ M.out).mono ?_
    rintro e w4 ⟨A2, m2, c2, rfl, hml, hO, hB⟩
    clear K3
    have S1 := veil (S1.out.keep hB)
    have R := veil (R.out.keep hB)
    have M := veil (M.out.keep hB)
    have B := veil (B.out.trans (hB.mono B.out.size))
    clear hB
    cases ho : readL right true with
    | none =>
      rw [ho] at HG hml
      obtain rfl : m2 = 0 := hml
      have HG : Hid (G = none) := HG
      clear ho hO
      rw [Option.isSome_none]
      have T := veil (store_row R.out (by rw [hz2.out]; rfl) (show nil16.length = 16 from rfl))
      have R5 := veil (R.out.setRow (bv nil16).toArray)
      have Q5 := veil (below_setRow B.out w.heap.size (bv nil16).toArray (Nat.le_refl _))
      have HN := veil build_nil
      go_wp2_with (first
        | (refine wpList_build_of rfl _ _ rfl _ rfl (HN.out _) ?_)
        | (refine wpList_store_of rfl _ _ rfl rfl rfl T.out ?_))
      refine bodyPost_ret (results_cell_tmp_row rfl _ _ w.heap.size _ _ _ rfl R5.out Tryd.underlying23 rfl (by kernel_rfl)) rfl ?_
      exact ⟨by rw [HG.out]; rfl, Q5.out⟩
    | some l2 =>
      rw [ho] at HG hml hO
      have HG : Hid (G = if (if cut = true then decide (l.length + l2.length < 8) else decide (l.length + l2.length = 8)) = true then some (fill l l2) else none) := HG
      replace hml : m2 = l2.length := hml
      have hmb2 : m2 ≤ 9 := hml ▸ readL_most ho
      have LT2 := veil (readL_lt ho)
      replace hO : W16.Own w4 w3.heap.size (.slice A2 m2 c2) (ints l2) := hO
      have S2 := veil hO.slc
      have HL2 := veil hml
      clear ho hO hml
      rw [Option.isSome_some]
      have HG : Hid (G = if (if cut = true then decide (m + m2 < 8) else decide (m + m2 = 8)) = true then some (fill l l2) else none) := by
        rw [HL.out, HL2.out]
        exact HG
      obtain ⟨z, hz⟩ : ∃ z, (if cut = true then decide (m + m2 < 8) else decide (m + m2 = 8)) = z := ⟨_, rfl⟩
      have K := veil (fills_any (m + m2) cut)
      rw [hz] at HG K
      have eK : ((m + m2 : Nat) : Int) = (m : Int) + (m2 : Int) := by omega
      rw [eK] at K
      clear eK
      cases z with
      | false =>
        have HG : Hid (G = none) := HG
        clear hz
        go_wp2_with fail
        refine (K.out _).mono ?_
        rintro e w5 ⟨rfl, rfl⟩
        have T := veil (store_row R.out (by rw [hz2.out]; rfl) (show nil16.length = 16 from rfl))
        have R5 := veil (R.out.setRow (bv nil16).toArray)
        have Q5 := veil (below_setRow B.out w.heap.size (bv nil16).toArray (Nat.le_refl _))
        have HN := veil build_nil
        go_wp2_with (first
          | (refine wpList_build_of rfl _ _ rfl _ rfl (HN.out _) ?_)
          | (refine wpList_store_of rfl _ _ rfl rfl rfl T.out ?_))
        refine bodyPost_ret (results_cell_tmp_row rfl _ _ w.heap.size _ _ _ rfl R5.out Tryd.underlying23 rfl (by kernel_rfl)) rfl ?_
        exact ⟨by rw [HG.out]; rfl, Q5.out⟩
      | true =>
        have HG : Hid (G = some (fill l l2)) := HG
        have hsum : m + m2 ≤ 8 := by
          cases cut <;> simp at hz <;> omega
        clear hz
        go_wp2_with fail
        refine (K.out _).mono ?_
        rintro e w5 ⟨rfl, rfl⟩
        clear K
        have eZ : (#[.int .u16 0, .int .u16 0, .int .u16 0, .int .u16 0, .int .u16 0, .int .u16 0, .int .u16 0, .int .u16 0] : Array Value) = (W16.bv (List.replicate 8 0)).toArray := rfl
        have r8 := row_new (w := w4) (g := w4.heap.size) (cs := (W16.bv (List.replicate 8 0)).toArray) (t := 41) rfl
        have b8 := below_new w4 (.cells (W16.bv (List.replicate 8 0)).toArray 41)
        have c1 := copy16 w4.heap.size 0 8 8 41 (W16.bv (List.replicate 8 0)) A m c (ints l) (w4.alloc (.cells (W16.bv (List.replicate 8 0)).toArray 41)) 3 (by rw [ints_len, HL.out]) (W16.slc_rd (S1.out.keep b8)).1 r8 (by omega) (by simp [W16.bv]; omega)
        have r9 := r8.setRow ((W16.bv (List.replicate 8 0)).take 0 ++ W16.bv (ints l) ++ (W16.bv (List.replicate 8 0)).drop (0 + m)).toArray
        have b9 := below_setRow b8 w4.heap.size ((W16.bv (List.replicate 8 0)).take 0 ++ W16.bv (ints l) ++ (W16.bv (List.replicate 8 0)).drop (0 + m)).toArray (Nat.le_refl _)
        rw [cur_one l m] at c1 r9 b9
        obtain ⟨w6, hw6⟩ : ∃ w6, (w4.alloc (.cells (W16.bv (List.replicate 8 0)).toArray 41)).setRow w4.heap.size (W16.bv (ints (l ++ List.replicate (8 - m) 0))).toArray = w6 := ⟨_, rfl⟩
        rw [hw6] at c1 r9 b9
        rw [← eZ] at c1
        have C1 := veil c1
        have R9 := veil r9
        have B9 := veil b9
        clear hw6 c1 r8 r9 b8 b9 eZ S1
        by_cases h0 : m2 = 0
        · subst h0
          obtain rfl : l2 = [] := List.eq_nil_of_length_eq_zero HL2.out.symm
          have R10 : Hid (Row w6 w4.heap.size 41 (W16.bv (ints (fill l []))).toArray) := by
            rw [fill_none, ← HL.out]
            exact R9
          have B10 := B9
          obtain ⟨w7, hw7⟩ : ∃ w7, w6 = w7 := ⟨_, rfl⟩
          subst hw7
          have C2 := veil (copy_none16 w4.heap.size A2 c2 w6 3)
          have hsl := slice_end w4.heap.size w6
          have hGs : (W16.bv (ints (fill l []))).toArray.size = 8 := by simp [W16.bv, ints_len]; exact fill_len (by rw [← HL.out, ← HL2.out]; exact hsum)
          have L := veil (load_row (P := Tryd.prog) (ty := 41) R10.out Tryd.underlying41 rfl (by rw [hGs]; kernel_rfl))
          have KA := veil (addrOf_any (fill l []) w6 (fill_len (by rw [← HL.out, ← HL2.out]; exact hsum)) (fill_lt LT.out LT2.out))
          have hl16 := veil (show (bys (fill l [])).length = 16 by rw [bys_len, fill_len (by rw [← HL.out, ← HL2.out]; exact hsum)])
          have R := veil (R.out.keep B10.out)
          have B := veil (B.out.trans (B10.out.mono B.out.size))
          have HG2 := veil (show gres G = .tuple #[av (bys (fill l [])), .int .i64 0] by rw [HG.out]; rfl)
          unfold gv at KA
          generalize fill l [] = F at *
          clear hGs HG R10 B10 HL HL2 LT LT2
          clear R9 B9 S2
          go_wp2_with (first
            | (refine W16.wpList_copy_of rfl (.tmp 45) (.tmp 46) rfl rfl rfl C1.out ?_)
            | (refine W16.wpList_copy_of rfl (.tmp 51) (.tmp 52) rfl rfl rfl C2.out ?_)
            | (refine wpList_load_of rfl _ rfl rfl L.out ?_))
          refine (KA.out).mono ?_
          rintro e w8 ⟨rfl, hB⟩
          have R := veil (R.out.keep hB)
          have B := veil (B.out.trans (hB.mono B.out.size))
          have T := veil (store_row R.out (by rw [hz2.out]; rfl) hl16.out)
          have R5 := veil (R.out.setRow (bv (bys F)).toArray)
          have Q5 := veil (below_setRow B.out w.heap.size (bv (bys F)).toArray (Nat.le_refl _))
          have hsz := sizeOk hl16.out
          clear hB KA
          go_wp2_with (refine wpList_store_of rfl _ _ rfl rfl rfl T.out ?_)
          refine bodyPost_ret (results_cell_tmp_row rfl _ _ w.heap.size _ _ _ rfl R5.out Tryd.underlying23 rfl (by simpa using hsz)) rfl ?_
          exact ⟨by rw [HG2.out]; rfl, Q5.out⟩
        · have c2' := copy16 w4.heap.size (8 - m2) m2 m2 41 (W16.bv (ints (l ++ List.replicate (8 - m) 0))) A2 m2 c2 (ints l2) w6 3 (by rw [ints_len, HL2.out]) (W16.slc_rd (S2.out.keep B9.out)).1 R9.out (by omega) (by simp [W16.bv, ints, ← HL.out]; omega)
          have r10 := R9.out.setRow ((W16.bv (ints (l ++ List.replicate (8 - m) 0))).take (8 - m2) ++ W16.bv (ints l2) ++ (W16.bv (ints (l ++ List.replicate (8 - m) 0))).drop (8 - m2 + m2)).toArray
          have b10 := below_setRow B9.out w4.heap.size ((W16.bv (ints (l ++ List.replicate (8 - m) 0))).take (8 - m2) ++ W16.bv (ints l2) ++ (W16.bv (ints (l ++ List.replicate (8 - m) 0))).drop (8 - m2 + m2)).toArray (Nat.le_refl _)
          rw [cur_two HL.out.symm HL2.out.symm hsum] at c2' r10 b10
          obtain ⟨w7, hw7⟩ : ∃ w7, w6.setRow w4.heap.size (W16.bv (ints (fill l l2))).toArray = w7 := ⟨_, rfl⟩
          rw [hw7] at c2' r10 b10
          obtain ⟨k2, hk2⟩ : ∃ k2, 8 - m2 = k2 := ⟨_, rfl⟩
          rw [hk2] at c2'
          have hk3 : (8 : Int) - (m2 : Int) = (k2 : Int) := by omega
          have hk4 : 8 - k2 = m2 := by omega
          have hk5 : k2 < 8 := by omega
          have hsl := slice_tail (g := w4.heap.size) w6 hk5 hk4
          have C2 := veil c2'
          have R10 := veil r10
          have B10 := veil b10
          clear hw7 c2' r10 b10 hk2 R9 B9 S2
          have hGs : (W16.bv (ints (fill l l2))).toArray.size = 8 := by simp [W16.bv, ints_len]; exact fill_len (by rw [← HL.out, ← HL2.out]; exact hsum)
          have L := veil (load_row (P := Tryd.prog) (ty := 41) R10.out Tryd.underlying41 rfl (by rw [hGs]; kernel_rfl))
          have KA := veil (addrOf_any (fill l l2) w7 (fill_len (by rw [← HL.out, ← HL2.out]; exact hsum)) (fill_lt LT.out LT2.out))
          have hl16 := veil (show (bys (fill l l2)).length = 16 by rw [bys_len, fill_len (by rw [← HL.out, ← HL2.out]; exact hsum)])
          have R := veil (R.out.keep B10.out)
          have B := veil (B.out.trans (B10.out.mono B.out.size))
          have HG2 := veil (show gres G = .tuple #[av (bys (fill l l2)), .int .i64 0] by rw [HG.out]; rfl)
          unfold gv at KA
          generalize fill l l2 = F at *
          clear hGs HG R10 B10 HL HL2 LT LT2
          go_wp2_with (first
            | (refine W16.wpList_copy_of rfl (.tmp 45) (.tmp 46) rfl rfl rfl C1.out ?_)
            | (refine W16.wpList_copy_of rfl (.tmp 51) (.tmp 52) rfl rfl rfl C2.out ?_)
            | (refine wpList_load_of rfl _ rfl rfl L.out ?_))
          refine (KA.out).mono ?_
          rintro e w8 ⟨rfl, hB⟩
          have R := veil (R.out.keep hB)
          have B := veil (B.out.trans (hB.mono B.out.size))
          have T := veil (store_row R.out (by rw [hz2.out]; rfl) hl16.out)
          have R5 := veil (R.out.setRow (bv (bys F)).toArray)
          have Q5 := veil (below_setRow B.out w.heap.size (bv (bys F)).toArray (Nat.le_refl _))
          have hsz := sizeOk hl16.out
          clear hB KA
          go_wp2_with (refine wpList_store_of rfl _ _ rfl rfl rfl T.out ?_)
          refine bodyPost_ret (results_cell_tmp_row rfl _ _ w.heap.size _ _ _ rfl R5.out Tryd.underlying23 rfl (by simpa using hsz)) rfl ?_
          exact ⟨by rw [HG2.out]; rfl, Q5.out⟩
end Go.Proofs.YtfaaogidbpfelaaDoor.Tx
