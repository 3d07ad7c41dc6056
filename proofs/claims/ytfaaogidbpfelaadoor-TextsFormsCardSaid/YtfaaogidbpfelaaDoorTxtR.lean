/-
  The reference's Put: group, joined, noughts, and what Put answers, whatever address it is.
  Conditions: groups below 65536.
-/
import Derived.Test.YtfaaogidbpfelaaDoorTxtW
import Derived.Test.YtfaaogidbpfelaaDoorMemBI
import Derived.Deep.RegionHeld3
namespace Go.Proofs.YtfaaogidbpfelaaDoor.Tx
open Go.RowKit Ad

theorem hex_low {n : Nat} (h : n < 16) : hex n = [hexd n] := by unfold hex; rw [if_pos h]
theorem hex_step {n : Nat} (h : ¬ n < 16) (h2 : n < 65536) : hex n = hex (n / 16) ++ [hexd (n % 16)] := by
  unfold hex
  rw [if_neg h]
  by_cases h3 : n < 256
  · rw [if_pos h3, if_pos (by omega)]
    rfl
  · rw [if_neg h3, if_neg (by omega : ¬ n / 16 < 16)]
    by_cases h4 : n < 4096
    · rw [if_pos h4, if_pos (by omega), Nat.div_div_eq_div_mul]
      rfl
    · rw [if_neg h4, if_neg (by omega), if_pos (by omega), Nat.div_div_eq_div_mul, Nat.div_div_eq_div_mul]
      rfl
set_option maxRecDepth 100000 in
/-- one digit's text -/
theorem digit_cut {d : Nat} (h : d < 16) {e : Nat} (he : d + 1 = e) (u : World) : (Instr.sliceAt 9 (.string ⟨#[48, 49, 50, 51, 52, 53, 54, 55, 56, 57, 97, 98, 99, 100, 101, 102]⟩) (some (.int .i64 d)) (some (.int .i64 e)) none).run Tryd.prog u = .ok (.string (bs [hexd d])) u := by
  subst he
  have : d = 0 ∨ d = 1 ∨ d = 2 ∨ d = 3 ∨ d = 4 ∨ d = 5 ∨ d = 6 ∨ d = 7 ∨ d = 8 ∨ d = 9 ∨ d = 10 ∨ d = 11 ∨ d = 12 ∨ d = 13 ∨ d = 14 ∨ d = 15 := by omega
  rcases this with rfl | rfl | rfl | rfl | rfl | rfl | rfl | rfl | rfl | rfl | rfl | rfl | rfl | rfl | rfl | rfl <;> rfl

theorem wpList_add_as {w : World} {ops : Array Oper} {rest : List Oper} {o : Oper} {a : Act} {Q : Exit → Act → World → Prop} (s t : Str) {r : Str} (hr : s ++ t = r) (hw : Region.wanted o (yielded ops a.tmps) = true) (x y : Operand) (ho : o.op = .binOp .add 9 x y 9) (hx : a.eval x = .string (bs s)) (hy : a.eval y = .string (bs t))
    (hl : Fits s t) (h : wpList Tryd.prog ops Q rest (a.put o.dst (.string (bs r))) w) : wpList Tryd.prog ops Q (o :: rest) a w := wpList_add_of s t hw x y ho hx hy hl (by rw [hr]; exact h)
theorem group_low {n : Nat} (h : n < 16) (w : World) : Calls Tryd.prog 29 #[.int .i64 n] w fun e w' => e = .returned (.string (bs (hex n))) ∧ Below w.heap.size w w' := by
  rw [hex_low h]
  obtain ⟨m, hm⟩ : ∃ m, n + 1 = m := ⟨_, rfl⟩
  have hsl := digit_cut h hm
  have s1 : IntKind.i64.wrap ((n : Int) + 1) = (m : Int) := by rw [IntWalk.i64_in _ (by omega)]; omega
  have h' : (n : Int) < 16 := by omega
  clear hm h
  go_enter Tryd.func29, Tryd.ntmps29
  go_wp2_with fail
  go_ret
  exact ⟨rfl, Below.refl _ _⟩
set_option linter.unusedSimpArgs false in
set_option maxRecDepth 100000 in
set_option maxHeartbeats 1000000 in
theorem group_step {n : Nat} (h : ¬ n < 16) (hn : n < 65536) (w : World) (hk : ∀ v, Calls Tryd.prog 29 #[.int .i64 ((n / 16 : Nat) : Int)] v fun e w' => e = .returned (.string (bs (hex (n / 16)))) ∧ Below v.heap.size v w') :
    Calls Tryd.prog 29 #[.int .i64 n] w fun e w' => e = .returned (.string (bs (hex n))) ∧ Below w.heap.size w w' := by
  rw [hex_step h hn]
  have Z1 : Hid (Fits (hex (n / 16)) [hexd (n % 16)]) := by
    unfold Hid Fits
    have := hex_len (n / 16)
    simp
    omega
  have hdl : n % 16 < 16 := by omega
  have r1 : (n : Int).tmod 16 = ((n % 16 : Nat) : Int) := by
    have := Int.ofNat_tmod n 16
    exact this.symm
  have r2 : (n : Int).tdiv 16 = ((n / 16 : Nat) : Int) := by
    have := Int.ofNat_tdiv n 16
    exact this.symm
  have KG := veil hk
  obtain ⟨d, hd⟩ : ∃ d, n % 16 = d := ⟨_, rfl⟩
  rw [hd] at Z1 hdl r1 ⊢
  obtain ⟨q, hq⟩ : ∃ q, n / 16 = q := ⟨_, rfl⟩
  rw [hq] at Z1 KG r2 ⊢
  obtain ⟨S, hS⟩ : ∃ S, hex q = S := ⟨_, rfl⟩
  rw [hS] at Z1 KG ⊢
  obtain ⟨m, hm⟩ : ∃ m, d + 1 = m := ⟨_, rfl⟩
  have hsl := digit_cut hdl hm
  have s1 : IntKind.i64.wrap ((d : Int) + 1) = (m : Int) := by rw [IntWalk.i64_in _ (by omega)]; omega
  have s2 : IntKind.i64.wrap (d : Int) = (d : Int) := by rw [IntWalk.i64_in _ (by omega)]
  have s3 : IntKind.i64.wrap (q : Int) = (q : Int) := by rw [IntWalk.i64_in _ (by omega)]
  have h' : ¬ (n : Int) < 16 := by omega
  have Q : Hid (Below w.heap.size w w.drew) := still_below (Below.refl _ _)
  clear hm hdl hS hq hd hk h hn
  go_enter Tryd.func29, Tryd.ntmps29
  go_wp2_with fail
  refine wp_region_noPanic ?_
  refine wp_region_held_drew (S := (fun _ => True)) (by kernel_rfl) trivial (fun hHeld => ?_)
  refine wpAnyH_take (i := 0) (v := ?_) (by rfl) (by kernel_rfl) (by kernel_rfl) (by kernel_rfl) (fun _ _ _ h => h) (Or.inl ⟨by rfl, ?_⟩) hHeld ?_
  rotate_left
  · intro w' hSw
    (try dsimp only at hSw)
    simp only [List.getElem_toArray, List.getElem_cons_zero, List.getElem_cons_succ]
    go_simp
    all_goals (try with_reducible rfl)
  try simp only [Act.put, List.setIfInBounds_toArray, List.set_cons_zero, List.set_cons_succ, List.getElem_toArray, List.getElem_cons_zero, List.getElem_cons_succ]
  refine wpAnyH_take (i := 1) (v := ?_) (by rfl) (by kernel_rfl) (by kernel_rfl) (by kernel_rfl) (fun _ _ _ h => h) (Or.inl ⟨by rfl, ?_⟩) hHeld ?_
  rotate_left
  · intro w' hSw
    (try dsimp only at hSw)
    simp only [List.getElem_toArray, List.getElem_cons_zero, List.getElem_cons_succ]
    go_simp
    all_goals (try with_reducible rfl)
  try simp only [Act.put, List.setIfInBounds_toArray, List.set_cons_zero, List.set_cons_succ, List.getElem_toArray, List.getElem_cons_zero, List.getElem_cons_succ]
  refine wpAnyH_take (i := 3) (v := ?_) (by rfl) (by kernel_rfl) (by kernel_rfl) (by kernel_rfl) (fun _ _ _ h => h) (Or.inl ⟨by rfl, ?_⟩) hHeld ?_
  rotate_left
  · intro w' hSw
    (try dsimp only at hSw)
    simp only [List.getElem_toArray, List.getElem_cons_zero, List.getElem_cons_succ]
    go_simp
    all_goals (try with_reducible rfl)
  try simp only [Act.put, List.setIfInBounds_toArray, List.set_cons_zero, List.set_cons_succ, List.getElem_toArray, List.getElem_cons_zero, List.getElem_cons_succ]
  refine wpAnyH_take (i := 4) (v := ?_) (by rfl) (by kernel_rfl) (by kernel_rfl) (by kernel_rfl) (fun _ _ _ h => h) (Or.inl ⟨by rfl, ?_⟩) hHeld ?_
  rotate_left
  · intro w' hSw
    (try dsimp only at hSw)
    simp only [List.getElem_toArray, List.getElem_cons_zero, List.getElem_cons_succ]
    go_simp
    all_goals (try with_reducible rfl)
  try simp only [Act.put, List.setIfInBounds_toArray, List.set_cons_zero, List.set_cons_succ, List.getElem_toArray, List.getElem_cons_zero, List.getElem_cons_succ]
  refine wpAnyH_take (i := 5) (v := ?_) (by rfl) (by kernel_rfl) (by kernel_rfl) (by kernel_rfl) (fun _ _ _ h => h) (Or.inl ⟨by rfl, ?_⟩) hHeld ?_
  rotate_left
  · intro w' hSw
    (try dsimp only at hSw)
    simp only [List.getElem_toArray, List.getElem_cons_zero, List.getElem_cons_succ]
    go_simp
    all_goals (try with_reducible rfl)
  try simp only [Act.put, List.setIfInBounds_toArray, List.set_cons_zero, List.set_cons_succ, List.getElem_toArray, List.getElem_cons_zero, List.getElem_cons_succ]
  refine wpAnyH_take (i := 6) (v := ?_) (by rfl) (by kernel_rfl) (by kernel_rfl) (by kernel_rfl) (fun _ _ _ h => h) (Or.inl ⟨by rfl, ?_⟩) hHeld ?_
  rotate_left
  · intro w' hSw
    (try dsimp only at hSw)
    simp only [List.getElem_toArray, List.getElem_cons_zero, List.getElem_cons_succ]
    go_simp
    all_goals (try with_reducible rfl)
  try simp only [Act.put, List.setIfInBounds_toArray, List.set_cons_zero, List.set_cons_succ, List.getElem_toArray, List.getElem_cons_zero, List.getElem_cons_succ]
  refine wpAnyH_take (i := 7) (v := ?_) (by rfl) (by kernel_rfl) (by kernel_rfl) (by kernel_rfl) (fun _ _ _ h => h) (Or.inl ⟨by rfl, ?_⟩) hHeld ?_
  rotate_left
  · intro w' hSw
    (try dsimp only at hSw)
    simp only [List.getElem_toArray, List.getElem_cons_zero, List.getElem_cons_succ]
    go_simp
    all_goals (try with_reducible rfl)
  try simp only [Act.put, List.setIfInBounds_toArray, List.set_cons_zero, List.set_cons_succ, List.getElem_toArray, List.getElem_cons_zero, List.getElem_cons_succ]
  refine wpAnyH_take (i := 8) (v := ?_) (by rfl) (by kernel_rfl) (by kernel_rfl) (by kernel_rfl) (fun _ _ _ h => h) (Or.inl ⟨by rfl, ?_⟩) hHeld ?_
  rotate_left
  · intro w' hSw
    (try dsimp only at hSw)
    simp only [List.getElem_toArray, List.getElem_cons_zero, List.getElem_cons_succ]
    go_simp
    all_goals (try with_reducible rfl)
  try simp only [Act.put, List.setIfInBounds_toArray, List.set_cons_zero, List.set_cons_succ, List.getElem_toArray, List.getElem_cons_zero, List.getElem_cons_succ]
  refine wpAnyH_ready (rs := [2]) (by kernel_rfl) (by simp) ?_
  refine AllReadyH.cons (by rfl) (fun K hK => ?_) AllReadyH.nil
  simp only [List.getElem_toArray, List.getElem_cons_zero, List.getElem_cons_succ]
  go_simp
  refine (KG.out _).mono ?_
  rintro e w2 ⟨rfl, q⟩
  have Q := veil (Q.out.trans (q.mono Q.out.size))
  clear q
  (try dsimp only)
  refine hK.out _ _ trivial (fun hHeld => ?_)
  clear hK K
  try simp only [Act.put, List.setIfInBounds_toArray, List.set_cons_zero, List.set_cons_succ, List.getElem_toArray, List.getElem_cons_zero, List.getElem_cons_succ]
  refine wpAnyH_take (i := 9) (v := _) (by rfl) (by kernel_rfl) (by kernel_rfl) (by kernel_rfl) (fun _ _ _ h => h) (yields_add (s := S) (t := [hexd d]) (by rfl) _ _ (by rfl) rfl rfl Z1.out) hHeld ?_
  try simp only [Act.put, List.setIfInBounds_toArray, List.set_cons_zero, List.set_cons_succ, List.getElem_toArray, List.getElem_cons_zero, List.getElem_cons_succ]
  refine wpAnyH_take (i := 10) (v := ?_) (by rfl) (by kernel_rfl) (by kernel_rfl) (by kernel_rfl) (fun _ _ _ h => h) (Or.inl ⟨by rfl, ?_⟩) hHeld ?_
  rotate_left
  · intro w' hSw
    (try dsimp only at hSw)
    simp only [List.getElem_toArray, List.getElem_cons_zero, List.getElem_cons_succ]
    go_simp
    all_goals (try with_reducible rfl)
  try simp only [Act.put, List.setIfInBounds_toArray, List.set_cons_zero, List.set_cons_succ, List.getElem_toArray, List.getElem_cons_zero, List.getElem_cons_succ]
  refine wpAnyH_done (by kernel_rfl) ?_ _
  refine NoPanic.normal ?_
  clear hHeld
  go_wp2_with fail
  go_ret
  exact ⟨rfl, Q.out⟩
theorem group_any {n : Nat} (hn : n < 65536) (w : World) : Calls Tryd.prog 29 #[.int .i64 n] w fun e w' => e = .returned (.string (bs (hex n))) ∧ Below w.heap.size w w' := by
  have go : ∀ k n : Nat, n < 65536 → n < 16 ^ (k + 1) → ∀ w, Calls Tryd.prog 29 #[.int .i64 n] w fun e w' => e = .returned (.string (bs (hex n))) ∧ Below w.heap.size w w' := by
    intro k
    induction k with
    | zero => exact fun n _ h w => group_low (by omega) w
    | succ k ih =>
      intro n hn h w
      by_cases hl : n < 16
      · exact group_low hl w
      · have e : 16 ^ (k + 1 + 1) = 16 * 16 ^ (k + 1) := by rw [Nat.pow_succ, Nat.mul_comm]
        exact group_step hl hn w (ih (n / 16) (by omega) (by omega))
  exact go 3 n hn (by omega) w

/-! groups with a colon between each two -/
def part (gs : List Nat) (f i : Nat) : List Nat := (gs.drop f).take (i - f)
theorem part_nil (gs : List Nat) (f : Nat) : part gs f f = [] := by simp [part]
theorem part_next {gs : List Nat} {f i : Nat} (hf : f ≤ i) (hi : i < gs.length) : part gs f (i + 1) = part gs f i ++ [gs.getD i 0] := by
  unfold part
  obtain ⟨k, rfl⟩ : ∃ k, i = f + k := ⟨i - f, by omega⟩
  rw [show f + k + 1 - f = k + 1 by omega, show f + k - f = k by omega, List.take_add_one, List.getElem?_drop]
  simp [List.getD, hi]
theorem part_ne {gs : List Nat} {f i : Nat} (hf : f < i) (hi : i ≤ gs.length) : part gs f i ≠ [] := by
  intro h
  have := congrArg List.length h
  simp [part] at this
  omega
theorem written_snoc {l : List Nat} (h : l ≠ []) (x : Nat) : written (l ++ [x]) = written l ++ [58] ++ hex x := by
  have := J_snoc (l.map hex) (hex x) (by simpa using h)
  show J ((l ++ [x]).map hex) = J (l.map hex) ++ [58] ++ hex x
  rw [List.map_append, List.map_cons, List.map_nil, this]
  simp
theorem part_len (gs : List Nat) (f i : Nat) : (part gs f i).length ≤ gs.length := by simp [part]; omega

set_option maxRecDepth 100000 in
set_option maxHeartbeats 2000000 in
theorem joined_any (gs : List Nat) (A : Option Addr) (n c f t : Nat) (w : World) (hR : I64.Rd w A (ints gs)) (hl : gs.length = n) (hn : n ≤ 8) (hf : f ≤ t) (ht : t ≤ n) (hg : ∀ g ∈ gs, g < 65536) :
    Calls Tryd.prog 21 #[.slice A n c, .int .i64 f, .int .i64 t] w fun e w' => e = .returned (.string (bs (written (part gs f t)))) ∧ Below w.heap.size w w' := by
  have HR := veil hR
  have HG := veil hg
  have HL := veil hl
  have Q0 := veil (Below.refl w.heap.size w)
  have HT : Hid (∀ i, (written (part gs f i)).length ≤ 40) := fun i => by
    have h1 := written_len (part gs f i)
    have h2 := part_len gs f i
    omega
  have H0 : Hid (bs (written (part gs f f)) = ⟨#[]⟩) := by unfold Hid; rw [part_nil, written_nil]; rfl
  clear hR hg hl
  go_enter Tryd.func21, Tryd.ntmps21
  go_wp2_with fail
  go_loopw [7, 8] (fun s i wr => ∃ (j : Nat) (S : Str), f ≤ j ∧ j ≤ t ∧ s = .string (bs S) ∧ i = .int .i64 j ∧ Hid (S = written (part gs f j) ∧ Below w.heap.size w wr)) (fun _ i _ => t - (intOf i).toNat)
  case atStart => exact ⟨f, written (part gs f f), by omega, hf, by rw [H0.out], rfl, rfl, Q0.out⟩
  case round =>
    clear Q0 H0
    obtain ⟨j, S, hfj, hjt, rfl, rfl, hH⟩ := hrel
    obtain ⟨hS, hb⟩ := hH.out
    by_cases hlt : j < t
    · obtain ⟨a, rfl, hc⟩ := HR.out j (by rw [ints_len, HL.out]; omega)
      rw [ints_at (by rw [HL.out]; omega)] at hc
      have hc : wr.cell? (a.add j) = some (.int .i64 ((gs.getD j 0 : Nat) : Int)) := by rw [hb.cell (block_lt_of_cell hc), hc]
      have hgl : gs.getD j 0 < 65536 := HG.out _ (by simp [List.getD, HL.out, show j < n by omega])
      have K := veil (group_any hgl wr)
      have hnx := part_next hfj (show j < gs.length by rw [HL.out]; omega)
      have HT1 := HT.out (j + 1)
      have HT0 := HT.out j
      have BB := veil hb
      by_cases hfi : f = j
      · have HS : Hid (hex (gs.getD j 0) = written (part gs f (j + 1))) := by
          unfold Hid
          rw [hnx, ← hfi, part_nil, List.nil_append, written_one]
        have hS0 : S = [] := by rw [hS, ← hfi, part_nil, written_nil]
        have Z1 : Hid (Fits S (hex (gs.getD j 0))) := by unfold Hid Fits; have := hex_len (gs.getD j 0); rw [hS0, List.length_nil]; omega
        generalize gs.getD j 0 = x at *
        generalize hex x = X at *
        have HSX : Hid (S ++ X = X) := by unfold Hid; rw [hS0, List.nil_append]
        clear hS0
        have hx : (x : Int) < 65536 := by omega
        have hj' : (j : Int) < t := by omega
        have hj2 : ¬ (f : Int) < j := by omega
        have p1 : ¬ ((j : Int) < 0) := by omega
        have p2 : (j : Int) < n := by omega
        have p3 : (j : Int).toNat = j := by omega
        clear hH hS hb hgl hnx HT1 HT0 hfi
        go_wp2_with fail
        refine (K.out).mono ?_
        rintro e w2 ⟨rfl, q⟩
        have B2 := veil (BB.out.trans (q.mono BB.out.size))
        clear q K BB hc
        go_wp2_with (refine wpList_add_as S X HSX.out rfl _ _ rfl rfl rfl Z1.out ?_)
        go_roundw
        case rel => exact ⟨j + 1, X, by omega, by omega, rfl, by go_num, HS.out, B2.out⟩
        case measure => simp [intOf]; omega
      · have HS : Hid (S ++ [58] ++ hex (gs.getD j 0) = written (part gs f (j + 1))) := by
          unfold Hid
          rw [hnx, written_snoc (part_ne (by omega) (by rw [HL.out]; omega)), hS]
        have Z0 : Hid (Fits S [58]) := by unfold Hid Fits; rw [hS]; simp; omega
        have Z1 : Hid (Fits (S ++ [58]) (hex (gs.getD j 0))) := by unfold Hid Fits; have := hex_len (gs.getD j 0); simp only [List.length_append, List.length_cons, List.length_nil]; rw [hS]; omega
        obtain ⟨S2, hS2⟩ : ∃ S2, S ++ [58] = S2 := ⟨_, rfl⟩
        have HS2 := veil hS2
        rw [hS2] at HS Z1
        generalize gs.getD j 0 = x at *
        generalize hex x = X at *
        obtain ⟨S3, hS3⟩ : ∃ S3, S2 ++ X = S3 := ⟨_, rfl⟩
        have HS3 := veil hS3
        rw [hS3] at HS
        have hx : (x : Int) < 65536 := by omega
        have hj' : (j : Int) < t := by omega
        have hj2 : (f : Int) < j := by omega
        have p1 : ¬ ((j : Int) < 0) := by omega
        have p2 : (j : Int) < n := by omega
        have p3 : (j : Int).toNat = j := by omega
        clear hH hS hb hgl hnx HT1 HT0 hS2 hS3
        go_wp2_with (refine wpList_add_as S [58] HS2.out rfl _ _ rfl rfl rfl Z0.out ?_)
        refine (K.out).mono ?_
        rintro e w2 ⟨rfl, q⟩
        have B2 := veil (BB.out.trans (q.mono BB.out.size))
        clear q K BB hc
        go_wp2_with (refine wpList_add_as S2 X HS3.out rfl _ _ rfl rfl rfl Z1.out ?_)
        go_roundw
        case rel => exact ⟨j + 1, S3, by omega, by omega, rfl, by go_num, HS.out, B2.out⟩
        case measure => simp [intOf]; omega
    · obtain rfl : j = t := by omega
      have HS := veil hS
      have BB := veil hb
      have hj' : ¬ (j : Int) < j := by omega
      clear hH hS hb
      go_wp2_with fail
      go_ret
      exact ⟨by rw [← HS.out]; rfl, BB.out⟩

/-! noughts -/
def zsOf (gs : List Nat) : List Bool := gs.map (· == 0)
theorem zs_run {gs : List Nat} {f m : Nat} (h : f + m ≤ gs.length) : (((zsOf gs).drop f).take m = List.replicate m true) ↔ ∀ j, f ≤ j → j < f + m → gs.getD j 0 = 0 := by
  constructor
  · intro e j h1 h2
    have := congrArg (fun l => l[j - f]?) e
    simp only [List.getElem?_take, List.getElem?_drop, List.getElem?_replicate] at this
    rw [if_pos (by omega), if_pos (by omega), show f + (j - f) = j by omega, zsOf, List.getElem?_map, List.getElem?_eq_getElem (by omega)] at this
    simp at this
    simp [List.getD, show j < gs.length by omega, this]
  · intro e
    apply List.ext_getElem?
    intro i
    by_cases hi : i < m
    · have := e (f + i) (by omega) (by omega)
      simp only [List.getElem?_take, List.getElem?_drop, List.getElem?_replicate]
      rw [if_pos hi, if_pos hi, zsOf, List.getElem?_map, List.getElem?_eq_getElem (by omega)]
      simp [List.getD, show f + i < gs.length by omega] at this
      simp [this]
    · rw [List.getElem?_eq_none (by simp; omega), List.getElem?_eq_none (by simp; omega)]
set_option maxRecDepth 100000 in
set_option maxHeartbeats 2000000 in
theorem noughts_any (gs : List Nat) (A : Option Addr) (n c f m t : Nat) (w : World) (hR : I64.Rd w A (ints gs)) (hl : gs.length = n) (hn : n ≤ 8) (ht : f + m = t) (htn : t ≤ n) (hg : ∀ g ∈ gs, g < 65536) {z : Bool} (hz : decide (((zsOf gs).drop f).take m = List.replicate m true) = z) :
    Calls Tryd.prog 20 #[.slice A n c, .int .i64 f, .int .i64 t] w fun e w' => e = .returned (.bool z) ∧ w = w' := by
  have hiff := zs_run (gs := gs) (f := f) (m := m) (by omega)
  have HZ : Hid (z = true ↔ ∀ j, f ≤ j → j < t → gs.getD j 0 = 0) := by
    unfold Hid
    rw [← hz, decide_eq_true_iff, hiff, ht]
  have HR := veil hR
  have HG := veil hg
  have HL := veil hl
  have hft : f ≤ t := by omega
  clear hR hg hl hz hiff ht
  go_enter Tryd.func20, Tryd.ntmps20
  go_wp2_with fail
  go_loopw [7] (fun i wr => ∃ j : Nat, f ≤ j ∧ j ≤ t ∧ i = .int .i64 j ∧ Hid (∀ k, f ≤ k → k < j → gs.getD k 0 = 0) ∧ w = wr) (fun i _ => t - (intOf i).toNat)
  case atStart => exact ⟨f, by omega, hft, rfl, (fun k h1 h2 => by omega), rfl⟩
  case round =>
    obtain ⟨j, hfj, hjt, rfl, hH, rfl⟩ := hrel
    by_cases hlt : j < t
    · obtain ⟨a, rfl, hc⟩ := HR.out j (by rw [ints_len, HL.out]; omega)
      rw [ints_at (by rw [HL.out]; omega)] at hc
      have hgl : gs.getD j 0 < 65536 := HG.out _ (by simp [List.getD, HL.out, show j < n by omega])
      have hj' : (j : Int) < t := by omega
      have p1 : ¬ ((j : Int) < 0) := by omega
      have p2 : (j : Int) < n := by omega
      have p3 : (j : Int).toNat = j := by omega
      by_cases hx : gs.getD j 0 = 0
      · have HH : Hid (∀ k, f ≤ k → k < j + 1 → gs.getD k 0 = 0) := fun k h1 h2 => by
          by_cases e : k = j
          · rw [e]; exact hx
          · exact hH.out k h1 (by omega)
        rw [hx] at hc
        clear hH hgl hx
        go_wp2_with fail
        go_roundw
        case rel => exact ⟨j + 1, by omega, by omega, by go_num, HH.out, trivial⟩
        case measure => simp [intOf]; omega
      · have hzf : z = false := by
          cases hz : z with
          | false => rfl
          | true => exact absurd (HZ.out.1 hz j hfj hlt) hx
        subst hzf
        generalize gs.getD j 0 = x at *
        have hx' : ((x : Int) = 0) = False := eq_false (by omega)
        clear hH hgl
        go_wp2_with fail
        go_ret
        exact ⟨rfl, rfl⟩
    · obtain rfl : j = t := by omega
      have hzt : z = true := HZ.out.2 hH.out
      subst hzt
      have hj' : ¬ (j : Int) < j := by omega
      clear hH
      go_wp2_with fail
      go_ret
      exact ⟨rfl, rfl⟩

/-! Put -/
def ffN (zs : List Bool) (m : Nat) : Nat → Nat → Option Nat
  | 0, _ => none
  | c + 1, f => if (zs.drop f).take m = List.replicate m true then some f else ffN zs m c (f + 1)
theorem ffN_eq (zs : List Bool) (m : Nat) : ∀ c f, findF zs m (List.range' f c) = ffN zs m c f
  | 0, _ => rfl
  | c + 1, f => by
    rw [List.range'_succ, findF, ffN, ffN_eq zs m c (f + 1)]
def fmN (zs : List Bool) : Nat → Option (Nat × Nat)
  | 0 => none
  | k + 1 => match ffN zs (k + 2) (9 - (k + 2)) 0 with
    | some f => some (f, k + 2)
    | none => fmN zs k
theorem fmN_step (zs : List Bool) (k : Nat) (r : List Nat) (h : findM zs r = fmN zs k) : findM zs ((k + 2) :: r) = fmN zs (k + 1) := by
  rw [findM, List.range_eq_range', ffN_eq, fmN, h]
  cases ffN zs (k + 2) (9 - (k + 2)) 0 <;> rfl
theorem fmN_eq (gs : List Nat) : run gs = fmN (zsOf gs) 7 :=
  fmN_step _ 6 _ (fmN_step _ 5 _ (fmN_step _ 4 _ (fmN_step _ 3 _ (fmN_step _ 2 _ (fmN_step _ 1 _ (fmN_step _ 0 _ rfl))))))
def putOf (gs : List Nat) : Option (Nat × Nat) → Str
  | some (f, m) => written (gs.take f) ++ [58, 58] ++ written (gs.drop (f + m))
  | none => written gs
theorem put_of (gs : List Nat) : put gs = putOf gs (run gs) := by
  unfold put
  cases run gs <;> rfl
/-- what is left of one length, then of the lesser ones -/
def fmK (zs : List Bool) (k c f : Nat) : Option (Nat × Nat) := match ffN zs (k + 2) c f with
  | some f => some (f, k + 2)
  | none => fmN zs k
theorem fmN_succ (zs : List Bool) (k : Nat) : fmN zs (k + 1) = fmK zs k (9 - (k + 2)) 0 := rfl
theorem fmK_zero (zs : List Bool) (k f : Nat) : fmK zs k 0 f = fmN zs k := rfl
theorem fmK_yes {zs : List Bool} {k c f : Nat} (h : (zs.drop f).take (k + 2) = List.replicate (k + 2) true) : fmK zs k (c + 1) f = some (f, k + 2) := by
  unfold fmK
  rw [ffN, if_pos h]
theorem fmK_no {zs : List Bool} {k c f : Nat} (h : ¬ (zs.drop f).take (k + 2) = List.replicate (k + 2) true) : fmK zs k (c + 1) f = fmK zs k c (f + 1) := by
  unfold fmK
  rw [ffN, if_neg h]
theorem grp_next (xs : List Int) {j : Nat} (h : j < 8) : (grp xs).take (j + 1) = (grp xs).take j ++ [(grp xs).getD j 0] := by
  rw [List.take_add_one]
  simp [List.getD, grp_len, h]
theorem own_ints {w : World} {base : Nat} {v : Value} {zs : List Int} (h : I64.Own w base v zs) : ∃ A c, v = .slice A zs.length c := by
  obtain ⟨A, c, e, _, _⟩ := h.slc.slice
  exact ⟨A, c, e⟩

set_option maxRecDepth 100000 in
set_option maxHeartbeats 4000000 in
theorem refPut_any (xs : List Int) (w : World) (hx : Ok xs) : Calls Tryd.prog 9 #[av xs] w fun e w' => e = .returned (.string (bs (put (grp xs)))) ∧ Below w.heap.size w w' := by
  have hg := grp_lt hx
  have h8 := grp_len xs
  have r0 := row_new (w := w) (g := w.heap.size) (cs := (bv xs).toArray) (t := 23) rfl
  have q0 := below_new w (.cells (bv xs).toArray 23)
  have R0 := veil r0
  have Q0 := veil q0
  have HX := veil hx
  have HG := veil hg
  have H8 := veil h8
  obtain ⟨PP, hPP⟩ : ∃ PP, put (grp xs) = PP := ⟨_, rfl⟩
  rw [hPP]
  have HPP := veil hPP
  clear r0 q0 hx hg h8 hPP
  have W0 : Hid (w.heap.size ≤ w.heap.size + 1) := Nat.le_succ _
  have W1 : Hid ((w.alloc (.cells (bv xs).toArray 23)).heap.size = w.heap.size + 1) := by unfold Hid; simp
  go_enter Tryd.func9, Tryd.ntmps9
  go_wp2_with fail
  generalize w.alloc (.cells (bv xs).toArray 23) = w1 at *
  go_loopw [3, 4] (fun l i wr => ∃ (j j2 : Nat) (A : Option Addr) (c : Nat), j ≤ 8 ∧ j2 = 2 * j ∧ i = .int .i64 j2 ∧ l = .slice A j c ∧ Hid (I64.Own wr (w.heap.size + 1) (.slice A j c) (ints ((grp xs).take j)) ∧ Row wr w.heap.size 23 (bv xs).toArray ∧ Below w.heap.size w wr ∧ w.heap.size + 1 ≤ wr.heap.size)) (fun _ i _ => 16 - (intOf i).toNat)
  case atStart => exact ⟨0, 0, none, 0, by omega, by omega, rfl, rfl, I64.own_nil _ _, R0.out, Q0.out, by rw [W1.out]; omega⟩
  case round =>
    clear R0 Q0
    obtain ⟨j, j2, A, c, hj, hj2, rfl, rfl, hH⟩ := hrel
    obtain ⟨hO, hr, hb, hz⟩ := hH.out
    by_cases hlt : j < 8
    · have c0 : wr.drew.cell? ⟨w.heap.size, 2 * j, none⟩ = some (.int .u8 (xs.getD (2 * j) 0)) := rng_at (rng_row hr) (by rw [HX.out.len]; omega)
      have c1 : wr.drew.cell? ⟨w.heap.size, 2 * j + 1, none⟩ = some (.int .u8 (xs.getD (2 * j + 1) 0)) := rng_at (rng_row hr) (by rw [HX.out.len]; omega)
      have h0 := HX.out.at (2 * j)
      have h1 := HX.out.at (2 * j + 1)
      obtain ⟨a, ha⟩ : ∃ a : Nat, xs.getD (2 * j) 0 = a := ⟨(xs.getD (2 * j) 0).toNat, by omega⟩
      obtain ⟨b, hbb⟩ : ∃ b : Nat, xs.getD (2 * j + 1) 0 = b := ⟨(xs.getD (2 * j + 1) 0).toNat, by omega⟩
      have hg : (grp xs).getD j 0 = a * 256 + b := by rw [grp_at xs hlt, ha, hbb]; rfl
      have HN : Hid (ints ((grp xs).take (j + 1)) = ints ((grp xs).take j) ++ [256 * (a : Int) + (b : Int)]) := by
        unfold Hid
        rw [grp_next xs hlt, ints_app, hg, show (256 * (a : Int) + (b : Int)) = ((a * 256 + b : Nat) : Int) by omega]
        rfl
      have HL : Hid ((ints ((grp xs).take j)).length = j) := by unfold Hid; rw [ints_len, List.length_take, H8.out]; omega
      have HO : Hid (I64.Own wr.drew (w.heap.size + 1) (.slice A j c) (ints ((grp xs).take j))) := hO.keep (still_below (Below.refl _ _))
      have RR : Hid (Row wr.drew w.heap.size 23 (bv xs).toArray) := still_row hr
      have BB := veil (still_below hb)
      have ZZ : Hid (w.heap.size + 1 ≤ wr.drew.heap.size) := hz
      generalize ints ((grp xs).take j) = L at *
      rw [ha] at c0
      rw [hbb] at c1
      rw [← hj2] at c0 c1
      obtain ⟨j3, hj3⟩ : ∃ j3, j2 + 1 = j3 := ⟨_, rfl⟩
      rw [hj3] at c1
      obtain ⟨x, hxx⟩ : ∃ x, a * 256 + b = x := ⟨_, rfl⟩
      rw [show (256 * (a : Int) + (b : Int)) = (x : Int) by omega] at HN
      obtain ⟨y, hy⟩ : ∃ y, 256 * a = y := ⟨_, rfl⟩
      have wa : IntKind.i64.wrap (a : Int) = (a : Int) := by rw [IntWalk.i64_in _ (by omega)]
      have wb : IntKind.i64.wrap (b : Int) = (b : Int) := by rw [IntWalk.i64_in _ (by omega)]
      have m1 : IntKind.i64.wrap (256 * (a : Int)) = (y : Int) := by rw [IntWalk.i64_in _ (by omega)]; omega
      have m2 : IntKind.i64.wrap ((y : Int) + (b : Int)) = (x : Int) := by rw [IntWalk.i64_in _ (by omega)]; omega
      have s3 : IntKind.i64.wrap ((j2 : Int) + 1) = (j3 : Int) := by rw [IntWalk.i64_in _ (by omega)]; omega
      have s2 : IntKind.i64.wrap ((j2 : Int) + 2) = ((j2 + 2 : Nat) : Int) := by rw [IntWalk.i64_in _ (by omega)]; omega
      have ha' : (a : Int) ≤ 255 := by omega
      have hb' : (b : Int) ≤ 255 := by omega
      have p0 : (j2 : Int) < 16 := by omega
      have p1 : ¬ ((j2 : Int) < 0) := by omega
      have p3 : (j2 : Int).toNat = j2 := by omega
      have p4 : ¬ ((j3 : Int) < 0) := by omega
      have p5 : (j3 : Int) < 16 := by omega
      have p6 : (j3 : Int).toNat = j3 := by omega
      have HJ2 := veil hj2
      have q2 := below_new wr.drew (.cells #[.int .i64 (x : Int)] 3)
      have r2 := row_new (w := wr.drew) (g := wr.drew.heap.size) (cs := #[.int .i64 (x : Int)]) (t := 3) rfl
      have hsz2 : (wr.drew.alloc (.cells #[.int .i64 (x : Int)] 3)).heap.size = wr.drew.heap.size + 1 := by simp
      obtain ⟨v', w3, H3, hO3, hgb, _⟩ := I64.run_append_slc (wr.drew.alloc (.cells #[.int .i64 (x : Int)] 3)) (w.heap.size + 1) 47 (.slice A j c) (.slice (some ⟨wr.drew.heap.size, 0, none⟩) 1 1) L [(x : Int)] (HO.out.keep q2) (.inr ⟨_, 1, rfl, I64.rd_lit r2 rfl, by simp⟩) (by rw [HL.out]; simp; omega) (by rw [hsz2]; have := ZZ.out; omega)
      have hO4 : I64.Own w3 (w.heap.size + 1) v' (ints ((grp xs).take (j + 1))) := by rw [HN.out]; exact hO3
      obtain ⟨A', c', e'⟩ := own_ints hO4
      have hlen : (ints ((grp xs).take (j + 1))).length = j + 1 := by rw [ints_len, List.length_take, H8.out]; omega
      rw [hlen] at e'
      subst e'
      have ob := I64.own_below (W := wr.drew) (HO.out.keep q2) hgb (q2.mono (by have := ZZ.out; omega)) (by rw [hsz2]; have := ZZ.out; omega)
      have RR3 := veil (RR.out.below ob (by omega))
      have BB3 := veil (BB.out.trans (ob.mono (by omega)))
      have ZZ3 := veil (Nat.le_trans ZZ.out ob.size)
      have HO4 := veil hO4
      have hlt0 := RR.out.lt
      have C1 : Hid (wr.drew.cell? ⟨w.heap.size, j2, none⟩ = some (.int .u8 a) ∧ wr.drew.cell? ⟨w.heap.size, j3, none⟩ = some (.int .u8 b)) := ⟨c0, c1⟩
      have C2 : Hid ((wr.drew.alloc (.cells #[.int .i64 (x : Int)] 3)).cell? ⟨w.heap.size, j2, none⟩ = some (.int .u8 a) ∧ (wr.drew.alloc (.cells #[.int .i64 (x : Int)] 3)).cell? ⟨w.heap.size, j3, none⟩ = some (.int .u8 b)) := ⟨(q2.cell hlt0).trans c0, (q2.cell hlt0).trans c1⟩
      have C3 : Hid (w3.cell? ⟨w.heap.size, j2, none⟩ = some (.int .u8 a) ∧ w3.cell? ⟨w.heap.size, j3, none⟩ = some (.int .u8 b)) := ⟨(ob.cell (by simp)).trans c0, (ob.cell (by simp)).trans c1⟩
      have HA := veil H3
      clear hH hO hr hb hz h0 h1 ha hbb hg hj3 hj2 hxx hy c0 c1 q2 r2 hsz2 hO3 hgb hO4 hlen ob H3 HO RR BB ZZ hlt0 HL HN
      go_wp2_with fail
      go_region_held3 (fun w' => w'.cell? ⟨w.heap.size, j2, none⟩ = some (.int .u8 a) ∧ w'.cell? ⟨w.heap.size, j3, none⟩ = some (.int .u8 b)) (first | exact C1.out | exact C2.out | exact C3.out)
        (first
          | (rw [if_pos (by rfl)]; refine I64.wp_append_of (.tmp 11) (.tmp 23) rfl rfl rfl HA.out ?_))
      clear C1 C2 C3 HA
      go_wp2_with fail
      go_roundw
      case rel => exact ⟨j + 1, j2 + 2, A', c', by omega, by have := HJ2.out; omega, by go_num, rfl, HO4.out, RR3.out, BB3.out, ZZ3.out⟩
      case measure => simp [intOf]; have := HJ2.out; omega
    · obtain rfl : j = 8 := by omega
      obtain rfl : j2 = 16 := by omega
      have e8 : (grp xs).take 8 = grp xs := List.take_of_length_le (by rw [H8.out]; omega)
      rw [e8] at hO
      have HR := veil (I64.slc_rd hO.slc).1
      have BB := veil hb
      have HF := veil (fmN_eq (grp xs))
      generalize grp xs = gs at *
      obtain ⟨P, hP⟩ : ∃ P, fmN (zsOf gs) 7 = P := ⟨_, rfl⟩
      rw [hP] at HF
      have HP := veil hP
      have HJ := veil (fun f t (h1 : f ≤ t) (h2 : t ≤ 8) (v : World) (h : I64.Rd v A (ints gs)) => joined_any gs A 8 c f t v h H8.out (by omega) h1 h2 HG.out)
      have HNo := veil (fun f m t (h1 : f + m = t) (h2 : t ≤ 8) (z : Bool) hz => noughts_any gs A 8 c f m t wr HR.out H8.out (by omega) h1 h2 HG.out (z := z) hz)
      have HPut : Hid (PP = putOf gs P) := by
        unfold Hid
        rw [← HPP.out, put_of, HF.out]
      clear hH hO hr hb hz e8 hP HPP HG HF HX W0 W1
      go_wp2_with fail
      go_loopg [5] 7 (fun g s5 wx => ∃ k : Nat, k = g ∧ k ≤ 7 ∧ s5 = .int .i64 ((k + 1 : Nat) : Int) ∧ Hid (fmN (zsOf gs) k = P) ∧ wr = wx)
      case atStart => exact ⟨7, rfl, by omega, rfl, HP.out, rfl⟩
      case round =>
        clear HP
        obtain ⟨k, rfl, hk7, rfl, hR, rfl⟩ := hrel
        cases k with
        | zero =>
          have hP0 : P = none := hR.out.symm
          have K := veil (HJ.out 0 8 (by omega) (by omega) wr HR.out)
          have HE : Hid (PP = written (part gs 0 8)) := by
            unfold Hid
            rw [HPut.out, hP0]
            show written gs = written (part gs 0 8)
            rw [part, List.drop_zero, Nat.sub_zero, List.take_of_length_le (by rw [H8.out]; omega)]
          clear hR hP0 HPut
          go_wp2_with fail
          refine (K.out).mono ?_
          rintro e w3 ⟨rfl, q⟩
          have B3 := veil (BB.out.trans (q.mono BB.out.size))
          clear q
          go_wp2_with fail
          go_ret
          exact ⟨by rw [HE.out]; rfl, B3.out⟩
        | succ k =>
          have hk2 : (2 : Int) ≤ ((k + 1 + 1 : Nat) : Int) := by omega
          obtain ⟨m, hm⟩ : ∃ m, k + 1 + 1 = m := ⟨_, rfl⟩
          rw [hm] at hk2 ⊢
          rw [fmN_succ] at hR
          have HM := veil hm
          have hm8 : m ≤ 8 := by omega
          clear hm
          go_wp2_with fail
          go_loopg [6] (9 - m) (fun c s6 wx => ∃ f : Nat, f + c + m = 9 ∧ s6 = .int .i64 f ∧ Hid (fmK (zsOf gs) k c f = P) ∧ wr = wx)
          case atStart => exact ⟨0, by omega, rfl, by have := hR.out; rwa [show k + 2 = m from HM.out] at this, rfl⟩
          case round =>
            clear hR
            obtain ⟨f, hfc, rfl, hR, rfl⟩ := hrel
            obtain ⟨t, ht⟩ : ∃ t, f + m = t := ⟨_, rfl⟩
            have s1 : IntKind.i64.wrap ((f : Int) + (m : Int)) = (t : Int) := by rw [IntWalk.i64_in _ (by omega)]; omega
            cases gk with
            | zero =>
              have ht8 : ¬ (t : Int) ≤ 8 := by omega
              have s2 : IntKind.i64.wrap ((m : Int) - 1) = ((k + 1 : Nat) : Int) := by have := HM.out; rw [IntWalk.i64_in _ (by omega)]; omega
              have HR2 : Hid (fmN (zsOf gs) k = P) := hR.out
              clear hR hfc ht
              go_wp2_with fail
              go_roundg k
              case measure => omega
              case rel => exact ⟨k, rfl, by omega, by go_num, HR2.out, by first | rfl | trivial⟩
            | succ c2 =>
              have ht8 : (t : Int) ≤ 8 := by omega
              obtain ⟨z, hz⟩ : ∃ z, decide (((zsOf gs).drop f).take m = List.replicate m true) = z := ⟨_, rfl⟩
              have K := veil (HNo.out f m t ht (by omega) z hz)
              have s3 : IntKind.i64.wrap ((f : Int) + 1) = ((f + 1 : Nat) : Int) := by rw [IntWalk.i64_in _ (by omega)]; omega
              cases z with
              | true =>
                have hy := of_decide_eq_true hz
                rw [← HM.out] at hy
                have hP1 : P = some (f, m) := by rw [← hR.out, fmK_yes hy, ← HM.out]
                have K1 := veil (HJ.out 0 f (by omega) (by omega) wr HR.out)
                have K2 := veil (fun v h => HJ.out t 8 (by omega) (by omega) v h)
                have HE : Hid (PP = written (part gs 0 f) ++ [58, 58] ++ written (part gs t 8)) := by
                  unfold Hid
                  rw [HPut.out, hP1]
                  show written (gs.take f) ++ [58, 58] ++ written (gs.drop (f + m)) = _
                  simp only [part, List.drop_zero, Nat.sub_zero, ← ht]
                  rw [List.take_of_length_le (l := gs.drop (f + m)) (by rw [List.length_drop, H8.out]; omega)]
                have z1 := written_len (part gs 0 f)
                have z2 := written_len (part gs t 8)
                have z3 := part_len gs 0 f
                have z4 := part_len gs t 8
                have Z1 : Hid (Fits (written (part gs 0 f)) [58, 58]) := by
                  unfold Hid Fits
                  have := H8.out
                  simp only [List.length_cons, List.length_nil]
                  omega
                have Z2 : Hid (Fits (written (part gs 0 f) ++ [58, 58]) (written (part gs t 8))) := by
                  unfold Hid Fits
                  have := H8.out
                  simp only [List.length_append, List.length_cons, List.length_nil]
                  omega
                generalize written (part gs 0 f) = s1 at *
                generalize written (part gs t 8) = s2 at *
                obtain ⟨s3, hs3⟩ : ∃ s3, s1 ++ [58, 58] = s3 := ⟨_, rfl⟩
                have HS3 := veil hs3
                rw [hs3] at Z2 HE
                obtain ⟨s4, hs4⟩ : ∃ s4, s3 ++ s2 = s4 := ⟨_, rfl⟩
                have HS4 := veil hs4
                rw [hs4] at HE
                clear hR hP1 hz hy z1 z2 z3 z4 hs3 hs4 HPut hfc ht
                go_wp2_with fail
                refine (K.out).mono ?_
                rintro e w3 ⟨rfl, rfl⟩
                clear K
                go_wp2_with fail
                refine (K1.out).mono ?_
                rintro e w3 ⟨rfl, q⟩
                have B3 := veil (BB.out.trans (q.mono BB.out.size))
                have R3 := veil (HR.out.keep q)
                clear q K1
                go_wp2_with (refine wpList_add_as s1 [58, 58] HS3.out rfl _ _ rfl rfl rfl Z1.out ?_)
                refine (K2.out _ R3.out).mono ?_
                rintro e w4 ⟨rfl, q⟩
                have B4 := veil (B3.out.trans (q.mono B3.out.size))
                clear q K2
                go_wp2_with (refine wpList_add_as s3 s2 HS4.out rfl _ _ rfl rfl rfl Z2.out ?_)
                try rw [Exit.noGoto_ret]
                go_ret
                exact ⟨by rw [HE.out]; rfl, B4.out⟩
              | false =>
                have hy := of_decide_eq_false hz
                rw [← HM.out] at hy
                have HR2 : Hid (fmK (zsOf gs) k c2 (f + 1) = P) := by unfold Hid; rw [← hR.out, fmK_no hy]
                clear hR hz hy ht
                go_wp2_with fail
                refine (K.out).mono ?_
                rintro e w3 ⟨rfl, rfl⟩
                clear K
                go_wp2_with fail
                go_roundg c2
                case measure => omega
                case rel => exact ⟨f + 1, by omega, by go_num, HR2.out, by first | rfl | trivial⟩
end Go.Proofs.YtfaaogidbpfelaaDoor.Tx
