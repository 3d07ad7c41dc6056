/-
  Texts of addresses that are written out: four digits a group, small or capital ones, decimals, any noughts as two colons: plain lists of bytes.
  Conditions: none.
-/
import Derived.Test.YtfaaogidbpfelaaDoorTxtQ
import Derived.Test.YtfaaogidbpfelaaDoorTxtG
namespace Go.Proofs.YtfaaogidbpfelaaDoor.Tx
open Go.RowKit Ad

def dgt (big : Bool) (d : Nat) : UInt8 := if d < 10 then (48 + d).toUInt8 else if big then (55 + d).toUInt8 else (87 + d).toUInt8
def dig4 (big : Bool) (n : Nat) : Str := [dgt big (n / 4096 % 16), dgt big (n / 256 % 16), dgt big (n / 16 % 16), dgt big (n % 16)]
theorem dgt_all : ∀ (b : Bool) (d : Fin 16), dig (dgt b d.1) = d.1 ∧ dgt b d.1 ≠ 58 ∧ dgt b d.1 ≠ 46 := by decide +kernel
theorem dig_dgt (b : Bool) {d : Nat} (h : d < 16) : dig (dgt b d) = d := (dgt_all b ⟨d, h⟩).1
theorem num_dig4 (b : Bool) {n : Nat} (h : n < 65536) : num 16 4 (dig4 b n) = some n := by
  unfold num dig4
  rw [if_neg (by simp)]
  simp only [numF]
  rw [dig_dgt b (by omega), dig_dgt b (by omega), dig_dgt b (by omega), dig_dgt b (by omega), if_pos (by omega), if_pos (by omega), if_pos (by omega), if_pos (by omega)]
  congr 1
  omega
theorem dig4_58 (b : Bool) (n : Nat) : (58 : UInt8) ∉ dig4 b n := by
  have h := fun d (hd : d < 16) => (dgt_all b ⟨d, hd⟩).2.1.symm
  unfold dig4
  simp only [List.mem_cons, List.not_mem_nil, or_false, not_or]
  exact ⟨h _ (by omega), h _ (by omega), h _ (by omega), h _ (by omega)⟩
def dec3 (n : Nat) : Str := if n < 10 then [(48 + n).toUInt8] else if n < 100 then [(48 + n / 10).toUInt8, (48 + n % 10).toUInt8] else [(48 + n / 100).toUInt8, (48 + n / 10 % 10).toUInt8, (48 + n % 10).toUInt8]
theorem dec3_all : ∀ n : Fin 256, dec (dec3 n.1) = some n.1 ∧ (58 : UInt8) ∉ dec3 n.1 ∧ (46 : UInt8) ∉ dec3 n.1 := by decide +kernel
theorem dec3_len (n : Nat) : (dec3 n).length ≤ 3 := by
  unfold dec3
  split
  · simp
  · split <;> simp
def four4 (a b c d : Nat) : Str := dec3 a ++ [46] ++ dec3 b ++ [46] ++ dec3 c ++ [46] ++ dec3 d
theorem four4_46 (a b c d : Nat) : (46 : UInt8) ∈ four4 a b c d := by simp [four4]
theorem four4_len (a b c d : Nat) : (four4 a b c d).length ≤ 15 := by
  have h1 := dec3_len a
  have h2 := dec3_len b
  have h3 := dec3_len c
  have h4 := dec3_len d
  simp [four4]
  omega
theorem four4_58 {a b c d : Nat} (ha : a < 256) (hb : b < 256) (hc : c < 256) (hd : d < 256) : (58 : UInt8) ∉ four4 a b c d := by
  have h1 := (dec3_all ⟨a, ha⟩).2.1
  have h2 := (dec3_all ⟨b, hb⟩).2.1
  have h3 := (dec3_all ⟨c, hc⟩).2.1
  have h4 := (dec3_all ⟨d, hd⟩).2.1
  simp only at h1 h2 h3 h4
  simp [four4, h1, h2, h3, h4]
theorem fours_four {a b c d : Nat} (ha : a < 256) (hb : b < 256) (hc : c < 256) (hd : d < 256) : fours (four4 a b c d) = some [a * 256 + b, c * 256 + d] := by
  obtain ⟨e1, _, n1⟩ := dec3_all ⟨a, ha⟩
  obtain ⟨e2, _, n2⟩ := dec3_all ⟨b, hb⟩
  obtain ⟨e3, _, n3⟩ := dec3_all ⟨c, hc⟩
  obtain ⟨e4, _, n4⟩ := dec3_all ⟨d, hd⟩
  simp only at e1 e2 e3 e4 n1 n2 n3 n4
  have hw : words 46 (four4 a b c d) = [dec3 a, dec3 b, dec3 c, dec3 d] := by
    have : four4 a b c d = dec3 a ++ 46 :: (dec3 b ++ 46 :: (dec3 c ++ 46 :: dec3 d)) := by simp [four4]
    rw [this, words_app n1, words_app n2, words_app n3, words_none n4]
  unfold fours
  rw [hw]
  simp only [e1, e2, e3, e4]

/-! the words of an address -/
def W8 (gs : List Nat) (bg : Nat → Bool) : List Str := (List.range 8).map fun i => dig4 (bg i) (gs.getD i 0)
theorem W8_len (gs : List Nat) (bg : Nat → Bool) : (W8 gs bg).length = 8 := by simp [W8]
theorem W8_at (gs : List Nat) (bg : Nat → Bool) {i : Nat} (h : i < 8) : (W8 gs bg).getD i [] = dig4 (bg i) (gs.getD i 0) := by simp [W8, List.getD, h]
theorem range_at {gs : List Nat} (h : gs.length = 8) : ((List.range 8).map fun i => gs.getD i 0) = gs := by
  apply List.ext_getElem
  · simp [h]
  · intro i h1 h2
    simp at h1
    simp [List.getD, h2]
theorem W8_num {gs : List Nat} (h8 : gs.length = 8) (hl : ∀ g ∈ gs, g < 65536) (bg : Nat → Bool) : (W8 gs bg).map (num 16 4) = gs.map some := by
  conv => rhs; rw [← range_at h8]
  unfold W8
  rw [List.map_map, List.map_map]
  apply List.map_congr_left
  intro i hi
  have hi : i < gs.length := by simpa [h8] using hi
  show num 16 4 (dig4 (bg i) (gs.getD i 0)) = some (gs.getD i 0)
  exact num_dig4 _ (hl _ (by simp [List.getD, hi]))
/-- the words: eight groups, or six and decimals -/
def ws (gs : List Nat) (bg : Nat → Bool) (tail : Bool) (fw : Str) : List Str := if tail then (W8 gs bg).take 6 ++ [fw] else W8 gs bg
def manyOf (tail : Bool) : Nat := if tail then 7 else 8
def restOf (tail : Bool) : Nat := if tail then 6 else 8
theorem ws_len (gs : List Nat) (bg : Nat → Bool) (tail : Bool) (fw : Str) : (ws gs bg tail fw).length = manyOf tail := by
  cases tail <;> simp [ws, manyOf, W8_len]
theorem good_ws (gs : List Nat) (bg : Nat → Bool) (tail : Bool) {fw : Str} (h1 : fw ≠ []) (h2 : (58 : UInt8) ∉ fw) : Good (ws gs bg tail fw) := by
  have h : Good (W8 gs bg) := by
    intro w hw
    simp [W8] at hw
    obtain ⟨i, _, rfl⟩ := hw
    exact ⟨by simp [dig4], dig4_58 _ _⟩
  cases tail with
  | false => exact h
  | true =>
    intro w hw
    simp only [ws, if_true] at hw
    rcases List.mem_append.1 hw with hw | hw
    · exact h w (List.mem_of_mem_take hw)
    · simp at hw
      subst hw
      exact ⟨h1, h2⟩
theorem Good.take {l : List Str} (h : Good l) (n : Nat) : Good (l.take n) := fun w hw => h w (List.mem_of_mem_take hw)
theorem Good.drop {l : List Str} (h : Good l) (n : Nat) : Good (l.drop n) := fun w hw => h w (List.mem_of_mem_drop hw)
section
variable {gs : List Nat} {tail : Bool} {fw : Str} {x y : Nat}
/-- what ties the last word to the groups -/
def Tail (gs : List Nat) (fw : Str) : Prop := ∃ x y, fours fw = some [x, y] ∧ gs = gs.take 6 ++ [x, y]
theorem side_pre (h8 : gs.length = 8) (hl : ∀ g ∈ gs, g < 65536) (bg : Nat → Bool) {f : Nat} (hf : f ≤ restOf tail) (last : Bool) : side last ((ws gs bg tail fw).take f) = some (gs.take f) := by
  have h := W8_num h8 hl bg
  apply side_nums
  cases tail with
  | false =>
    show ((W8 gs bg).take f).map (num 16 4) = _
    rw [List.map_take, List.map_take, h]
  | true =>
    have hf : f ≤ 6 := hf
    simp only [ws, if_true]
    rw [List.take_append_of_le_length (by simp [W8_len]; omega), List.take_take, Nat.min_eq_left hf, List.map_take, List.map_take, h]
theorem side_suf (h8 : gs.length = 8) (hl : ∀ g ∈ gs, g < 65536) (bg : Nat → Bool) (hf : tail = true → Tail gs fw ∧ (46 : UInt8) ∈ fw) {t : Nat} (ht : t ≤ restOf tail) : side true ((ws gs bg tail fw).drop t) = some (gs.drop t) := by
  have h := W8_num h8 hl bg
  cases tail with
  | false =>
    apply side_nums
    show ((W8 gs bg).drop t).map (num 16 4) = _
    rw [List.map_drop, List.map_drop, h]
  | true =>
    have ht : t ≤ 6 := ht
    obtain ⟨⟨x, y, hfo, hgs⟩, hm⟩ := hf rfl
    simp only [ws, if_true]
    rw [List.drop_append_of_le_length (by simp [W8_len]; omega)]
    have e : gs.drop t = (gs.take 6).drop t ++ [x, y] := by
      conv => lhs; rw [hgs]
      rw [List.drop_append_of_le_length (by simp [h8]; omega)]
    rw [e]
    refine side_dec ?_ hfo hm
    rw [List.map_drop, List.map_drop, List.map_take, List.map_take, h]
theorem get_all (h8 : gs.length = 8) (hl : ∀ g ∈ gs, g < 65536) (bg : Nat → Bool) (hg : Good (ws gs bg tail fw)) (hf : tail = true → Tail gs fw ∧ (46 : UInt8) ∈ fw) : get (J (ws gs bg tail fw)) = some gs :=
  get_J hg (side_suf (t := 0) h8 hl bg hf (Nat.zero_le _)) h8
theorem get_cut (h8 : gs.length = 8) (hl : ∀ g ∈ gs, g < 65536) (bg : Nat → Bool) (hg : Good (ws gs bg tail fw)) (hf : tail = true → Tail gs fw ∧ (46 : UInt8) ∈ fw) {f t : Nat} (hft : f < t) (ht : t ≤ restOf tail) :
    get (J ((ws gs bg tail fw).take f) ++ [58, 58] ++ J ((ws gs bg tail fw).drop t)) = some (fill (gs.take f) (gs.drop t)) := by
  have h7 : restOf tail ≤ 8 := by cases tail <;> simp [restOf]
  exact get_J_gap (hg.take f) (hg.drop t) (side_pre h8 hl bg (by omega) false) (side_suf h8 hl bg hf ht) (by simp [h8]; omega)
/-- two colons and a digit behind all -/
theorem get_more (bg : Nat → Bool) (hg : Good (ws gs bg tail fw)) (hm : (46 : UInt8) ∈ fw) : get (J (ws gs bg tail fw) ++ [58, 58, 49]) = none := by
  cases tail with
  | false => exact get_many hg (by rw [ws_len]; simp [manyOf]) [58, 49]
  | true =>
    refine get_gap_left hg ?_ [49]
    simp only [ws, if_true]
    refine side_last ?_ _
    cases hn : num 16 4 fw with
    | none => rfl
    | some v => exact absurd hm (num_46 hn)
theorem get_space (s : Str) : get (s ++ [32]) = none := by
  refine get_strange (b := 32) (by simp) ?_
  rintro (h | h | h)
  · simp [dig] at h
  · cases h
  · cases h
theorem get_colon (bg : Nat → Bool) (hg : Good (ws gs bg tail fw)) : get (58 :: J (ws gs bg tail fw)) = none := by
  refine get_ahead ?_
  have hl := ws_len gs bg tail fw
  cases hw : ws gs bg tail fw with
  | nil =>
    rw [hw] at hl
    cases tail <;> simp [manyOf] at hl
  | cons w l =>
    rw [hw] at hg
    have := head_J hg []
    simpa using this
end

/-! the words, one by one -/
theorem J_next {l : List Str} {i : Nat} (h0 : 0 < i) (hi : i < l.length) : J (l.take i) ++ [58] ++ l.getD i [] = J (l.take (i + 1)) := by
  have : l.take (i + 1) = l.take i ++ [l.getD i []] := by
    rw [List.take_add_one]
    simp [List.getD, hi]
  rw [this, J_snoc _ _ (by intro e; have := congrArg List.length e; rw [List.length_take, List.length_nil] at this; omega)]
  simp
theorem J_first {l : List Str} (hi : 0 < l.length) : l.getD 0 [] = J (l.take 1) := by
  cases l with
  | nil => simp at hi
  | cons w l => simp [J_one]
/-- what stands there ahead of word i -/
def cutS (l : List Str) (f t i : Nat) : Str := if i ≤ f then J (l.take i) else J (l.take f) ++ [58, 58] ++ J ((l.drop t).take (i - t))
theorem cutS_zero (l : List Str) (f t : Nat) : cutS l f t 0 = [] := by simp [cutS, J_nil]
theorem cutS_end {l : List Str} {f t : Nat} (h : f < l.length) : cutS l f t l.length = J (l.take f) ++ [58, 58] ++ J (l.drop t) := by
  unfold cutS
  rw [if_neg (by omega), List.take_of_length_le (l := l.drop t) (by simp)]
theorem cutS_low {l : List Str} {f t i : Nat} (h0 : 0 < i) (hi : i < f) (hl : i < l.length) : cutS l f t i ++ [58] ++ l.getD i [] = cutS l f t (i + 1) := by
  unfold cutS
  rw [if_pos (by omega), if_pos (by omega), J_next h0 hl]
theorem cutS_first {l : List Str} {f t : Nat} (hi : 0 < f) (hl : 0 < l.length) : cutS l f t 0 ++ l.getD 0 [] = cutS l f t (0 + 1) := by
  rw [cutS_zero]
  unfold cutS
  rw [if_pos (by omega), J_first hl]
  rfl
theorem cutS_gap {l : List Str} {f t : Nat} (h : f < t) : cutS l f t f ++ [58, 58] = cutS l f t (f + 1) := by
  unfold cutS
  rw [if_pos (by omega), if_neg (by omega), show f + 1 - t = 0 by omega]
  simp [J_nil]
theorem cutS_in {l : List Str} {f t i : Nat} (h : f < i) (ht : i < t) : cutS l f t i = cutS l f t (i + 1) := by
  unfold cutS
  rw [if_neg (by omega), if_neg (by omega), show i + 1 - t = 0 by omega, show i - t = 0 by omega]
theorem cutS_at {l : List Str} {f t : Nat} (h : f < t) (hl : t < l.length) : cutS l f t t ++ l.getD t [] = cutS l f t (t + 1) := by
  unfold cutS
  rw [if_neg (by omega), if_neg (by omega), show t + 1 - t = 1 by omega, show t - t = 0 by omega]
  have := J_first (l := l.drop t) (by simp; omega)
  rw [← this]
  simp [J_nil, List.getD, hl]
theorem cutS_high {l : List Str} {f t i : Nat} (h : f < t) (ht : t < i) (hl : i < l.length) : cutS l f t i ++ [58] ++ l.getD i [] = cutS l f t (i + 1) := by
  unfold cutS
  rw [if_neg (by omega), if_neg (by omega), show i + 1 - t = (i - t) + 1 by omega]
  have := J_next (l := l.drop t) (i := i - t) (by omega) (by simp; omega)
  rw [← this]
  simp [List.getD, show t + (i - t) = i by omega]
theorem J_most {l : List Str} (h : ∀ w ∈ l, w.length ≤ 15) : (J l).length ≤ 16 * l.length := by
  induction l with
  | nil => simp [J_nil]
  | cons w r ih =>
    have h1 := h w (by simp)
    have h2 := ih (fun x hx => h x (by simp [hx]))
    cases r with
    | nil => rw [J_one]; simp; omega
    | cons k r => rw [J_cons]; simp at h2 ⊢; omega
theorem cutS_most {l : List Str} (h : ∀ w ∈ l, w.length ≤ 15) (h8 : l.length ≤ 8) (f t i : Nat) : (cutS l f t i).length ≤ 300 := by
  unfold cutS
  have h1 := fun n => J_most (l := l.take n) (fun w hw => h w (List.mem_of_mem_take hw))
  have h2 := J_most (l := (l.drop t).take (i - t)) (fun w hw => h w (List.mem_of_mem_drop (List.mem_of_mem_take hw)))
  have h3 := h1 i
  have h4 := h1 f
  simp only [List.length_take, List.length_drop] at h2 h3 h4
  split
  · omega
  · simp only [List.length_append, List.length_cons, List.length_nil]
    omega

/-! the noughts -/
/-- an address whose groups from f to t are noughts, as far as i -/
def cz (xs : List Int) (f t i : Nat) : List Int := (List.range 16).map fun k => if f ≤ k / 2 ∧ k / 2 < t ∧ k / 2 < i then 0 else xs.getD k 0
theorem cz_len (xs : List Int) (f t i : Nat) : (cz xs f t i).length = 16 := by simp [cz]
theorem cz_at (xs : List Int) (f t i : Nat) {k : Nat} (h : k < 16) : (cz xs f t i).getD k 0 = if f ≤ k / 2 ∧ k / 2 < t ∧ k / 2 < i then 0 else xs.getD k 0 := by simp [cz, List.getD, h]
theorem cz_zero {xs : List Int} (h : xs.length = 16) (f t : Nat) : cz xs f t 0 = xs := by
  apply List.ext_getElem
  · simp [cz, h]
  · intro k h1 h2
    simp [cz, List.getD, h2]
theorem cz_out {xs : List Int} {f t i : Nat} (h : ¬ (f ≤ i ∧ i < t)) : cz xs f t (i + 1) = cz xs f t i := by
  unfold cz
  apply List.map_congr_left
  intro k _
  by_cases hk : k / 2 = i
  · rw [if_neg (by omega), if_neg (by omega)]
  · by_cases h2 : f ≤ k / 2 ∧ k / 2 < t ∧ k / 2 < i
    · rw [if_pos h2, if_pos (by omega)]
    · rw [if_neg h2, if_neg (by omega)]
theorem cz_set {xs : List Int} {f t i : Nat} (h : f ≤ i ∧ i < t) : ((cz xs f t i).set (2 * i) 0).set (2 * i + 1) 0 = cz xs f t (i + 1) := by
  apply List.ext_getElem
  · simp [cz]
  · intro k h1 h2
    have hk : k < 16 := by simpa [cz] using h2
    simp only [List.getElem_set, cz, List.getElem_map, List.getElem_range]
    by_cases e1 : 2 * i + 1 = k
    · rw [if_pos e1, if_pos (by omega)]
    · rw [if_neg e1]
      by_cases e2 : 2 * i = k
      · rw [if_pos e2, if_pos (by omega)]
      · rw [if_neg e2]
        by_cases h3 : f ≤ k / 2 ∧ k / 2 < t ∧ k / 2 < i
        · rw [if_pos h3, if_pos (by omega)]
        · rw [if_neg h3, if_neg (by omega)]
theorem cz_ok {xs : List Int} (h : Ok xs) (f t i : Nat) : Ok (cz xs f t i) := by
  refine ⟨cz_len xs f t i, fun z hz => ?_⟩
  simp only [cz, List.mem_map, List.mem_range] at hz
  obtain ⟨k, hk, rfl⟩ := hz
  split
  · omega
  · exact h.at k
theorem getD_of {α : Type} (l : List α) (d : α) {j : Nat} (h : j < l.length) : l.getD j d = l[j] := by simp only [List.getD, List.getElem?_eq_getElem h, Option.getD_some]
theorem cz_grp (xs : List Int) {f t i : Nat} (hft : f ≤ t) (ht : t ≤ i) (hi : t ≤ 8) : grp (cz xs f t i) = fill ((grp xs).take f) ((grp xs).drop t) := by
  have hl := grp_len xs
  have e0 : 8 - (((grp xs).take f).length + ((grp xs).drop t).length) = t - f := by simp [hl]; omega
  unfold fill
  rw [e0]
  apply List.ext_getElem
  · simp [grp_len]; omega
  · intro j h1 h2
    have hj : j < 8 := by simpa [grp_len] using h1
    have a2 : (grp xs)[j]'(by omega) = (grp xs).getD j 0 := (getD_of _ 0 (by omega)).symm
    refine Eq.trans (getD_of _ 0 h1).symm ?_
    rw [grp_at _ hj, cz_at _ _ _ _ (by omega), cz_at _ _ _ _ (by omega), show 2 * j / 2 = j by omega, show (2 * j + 1) / 2 = j by omega]
    by_cases c1 : j < f
    · rw [if_neg (by omega), if_neg (by omega), List.getElem_append_left (by simp [hl]; omega), List.getElem_append_left (by simp [hl]; omega), List.getElem_take, a2, grp_at _ hj]
    · by_cases c2 : j < t
      · rw [if_pos (by omega), if_pos (by omega), List.getElem_append_left (by simp [hl]; omega), List.getElem_append_right (by simp; omega)]
        simp
      · rw [if_neg (by omega), if_neg (by omega), List.getElem_append_right (by simp [hl]; omega), List.getElem_drop]
        have : t + (j - ((grp xs).take f ++ List.replicate (t - f) 0).length) = j := by simp [hl]; omega
        simp only [this, a2]
        rw [grp_at _ hj]
end Go.Proofs.YtfaaogidbpfelaaDoor.Tx
