/-
  Which texts are none; texts made of words; the digits of an address's text: plain lists of bytes.
  Conditions: none.
-/
import Derived.Test.YtfaaogidbpfelaaDoorTxtF
namespace Go.Proofs.YtfaaogidbpfelaaDoor.Tx

/-! which bytes a text that is one may have -/
def fine (b : UInt8) : Prop := dig b < 16 ∨ b = 58 ∨ b = 46
theorem numF_fine {base : Nat} : ∀ {s : Str} {n v : Nat}, numF base n s = some v → ∀ b ∈ s, dig b < base
  | [], _, _, _ => by simp
  | x :: r, n, v, h => by
    rw [numF] at h
    split at h
    · rename_i hx
      intro b hb
      rcases List.mem_cons.1 hb with rfl | hb
      · exact hx
      · exact numF_fine h b hb
    · cases h
theorem num_digs {base most : Nat} {s : Str} {v : Nat} (h : num base most s = some v) : ∀ b ∈ s, dig b < base := by
  unfold num at h
  split at h
  · cases h
  · exact numF_fine h
theorem num_46 {s : Str} {v most : Nat} (h : num 16 most s = some v) : (46 : UInt8) ∉ s := fun hm => by
  have := num_digs h 46 hm
  simp [dig] at this
theorem dec_fine {s : Str} {v : Nat} (h : dec s = some v) : ∀ b ∈ s, fine b := by
  unfold dec at h
  split at h
  · cases h
  · split at h
    · rename_i hn
      intro b hb
      exact .inl (Nat.lt_of_lt_of_le (num_digs hn b hb) (by omega))
    · cases h
theorem words_mem {c b : UInt8} : ∀ {s : Str}, b ∈ s → b = c ∨ ∃ w ∈ words c s, b ∈ w
  | [], h => by simp at h
  | x :: r, h => by
    unfold words
    by_cases hx : x = c
    · rw [if_pos hx]
      rcases List.mem_cons.1 h with rfl | h
      · exact .inl hx
      · rcases words_mem h with h | ⟨w, hw, hb⟩
        · exact .inl h
        · exact .inr ⟨w, by simp [hw], hb⟩
    · rw [if_neg hx]
      cases hr : words c r with
      | nil => exact absurd hr (words_ne c r)
      | cons y t =>
        simp only
        rcases List.mem_cons.1 h with rfl | h
        · exact .inr ⟨b :: y, by simp, by simp⟩
        · rcases words_mem (c := c) h with h | ⟨w, hw, hb⟩
          · exact .inl h
          · rw [hr] at hw
            rcases List.mem_cons.1 hw with rfl | hw
            · exact .inr ⟨x :: w, by simp, by simp [hb]⟩
            · exact .inr ⟨w, by simp [hw], hb⟩
theorem fours_fine {s : Str} {l : List Nat} (h : fours s = some l) : ∀ b ∈ s, fine b := by
  intro b hb
  rcases words_mem (c := 46) hb with rfl | ⟨w, hw, hbw⟩
  · exact .inr (.inr rfl)
  · unfold fours at h
    split at h
    · rename_i a1 a2 a3 a4 e
      rw [e] at hw
      split at h
      · rename_i h1 h2 h3 h4
        simp at hw
        rcases hw with rfl | rfl | rfl | rfl
        · exact dec_fine h1 b hbw
        · exact dec_fine h2 b hbw
        · exact dec_fine h3 b hbw
        · exact dec_fine h4 b hbw
      · cases h
    · cases h
theorem wordR_fine {s : Str} {last : Bool} {l : List Nat} (h : wordR s last = some l) : ∀ b ∈ s, fine b := by
  unfold wordR at h
  split at h
  · exact fours_fine h
  · simp at h
    obtain ⟨v, hv, _⟩ := h
    exact fun b hb => .inl (num_digs hv b hb)
theorem side_fine {last : Bool} : ∀ {ws : List Str} {l : List Nat}, side last ws = some l → ∀ w ∈ ws, ∀ b ∈ w, fine b
  | [], _, _ => by simp
  | [w], l, h => by
    have h : wordR w last = some l := h
    intro x hx
    simp at hx
    subst hx
    exact wordR_fine h
  | w :: k :: ws, l, h => by
    rw [side_cons] at h
    split at h
    · rename_i hn
      split at h
      · rename_i hs
        intro x hx
        rcases List.mem_cons.1 hx with rfl | hx
        · exact fun b hb => .inl (num_digs hn b hb)
        · exact side_fine hs x hx
      · cases h
    · cases h
theorem sideS_fine {s : Str} {last : Bool} {l : List Nat} (h : sideS s last = some l) : ∀ b ∈ s, fine b := by
  unfold sideS at h
  split at h
  · rename_i e
    subst e
    simp
  · intro b hb
    rcases words_mem (c := 58) hb with rfl | ⟨w, hw, hbw⟩
    · exact .inr (.inl rfl)
    · exact side_fine h w hw b hbw
theorem get_fine {s : Str} {l : List Nat} (h : get s = some l) : ∀ b ∈ s, fine b := by
  unfold get at h
  split at h
  · split at h
    · rename_i hs
      exact sideS_fine hs
    · cases h
  · rename_i a b hc
    split at h
    · rename_i ha
      split at h
      · rename_i hb
        have e := (index2_yes hc).2
        rw [e]
        intro x hx
        rcases List.mem_append.1 hx with hx | hx
        · exact sideS_fine ha x hx
        · rcases List.mem_cons.1 hx with hx | hx
          · exact .inr (.inl hx)
          · rcases List.mem_cons.1 hx with hx | hx
            · exact .inr (.inl hx)
            · exact sideS_fine hb x hx
      · cases h
    · cases h
theorem get_strange {s : Str} {b : UInt8} (hb : b ∈ s) (h : ¬ fine b) : get s = none := by
  cases hg : get s with
  | none => rfl
  | some l => exact absurd (get_fine hg b hb) h
theorem get_len {s : Str} {l : List Nat} (h : get s = some l) : l.length = 8 ∧ ∀ g ∈ l, g < 65536 := by
  have e := getL_eq s
  unfold get at h
  split at h
  · split at h
    · rename_i hs
      split at h
      · injection h with h
        subst h
        rename_i h8
        exact ⟨h8, readL_lt (readL_side hs (by omega))⟩
      · cases h
    · cases h
  · split at h
    · rename_i ha
      split at h
      · rename_i hb
        split at h
        · injection h with h
          subst h
          exact ⟨fill_len (by omega), fill_lt (readL_lt (readL_side ha (by omega))) (readL_lt (readL_side hb (by omega)))⟩
        · cases h
      · cases h
    · cases h

/-! a first word that is none; too many words -/
theorem cut2_colon {t a b : Str} (h : cut2 (58 :: t) = some (a, b)) : a = [] ∨ ∃ a', a = 58 :: a' := by
  unfold cut2 at h
  split at h
  · injection h with h
    injection h with h _
    exact .inl h.symm
  · split at h
    · injection h with h
      injection h with h _
      exact .inr ⟨_, h.symm⟩
    · cases h
theorem side_first {last : Bool} {w : Str} {ws : List Str} (hn : num 16 4 w = none) (hw : ws ≠ []) : side last (w :: ws) = none := by
  cases ws with
  | nil => exact absurd rfl hw
  | cons k ws => rw [side_cons, hn]
theorem get_first {w : Str} (h58 : (58 : UInt8) ∉ w) (hne : w ≠ []) (hn : num 16 4 w = none) (t : Str) : get (w ++ 58 :: t) = none := by
  have hc := cut2_app h58 (58 :: t)
  have hwt : words 58 t ≠ [] := words_ne 58 t
  unfold get
  cases h2 : cut2 (58 :: t) with
  | none =>
    rw [h2] at hc
    simp only [hc, Option.map_none]
    unfold sideS
    rw [if_neg (by simp), words_app h58, side_first hn hwt]
  | some p =>
    obtain ⟨a, b⟩ := p
    rw [h2] at hc
    simp only [hc, Option.map_some]
    have : sideS (w ++ a) false = none := by
      unfold sideS
      rw [if_neg (by simp [hne])]
      rcases cut2_colon h2 with rfl | ⟨a', rfl⟩
      · rw [List.append_nil, words_none h58]
        show wordR w false = none
        unfold wordR
        simp [hn]
      · rw [words_app h58, side_first hn (words_ne 58 a')]
    rw [this]
/-- a colon ahead of all -/
theorem get_ahead {t : Str} (ht : t.head? ≠ some 58) : get (58 :: t) = none := by
  have hc := cut2_step ht
  unfold get
  have e0 : words 58 (58 :: t) = [] :: words 58 t := words_app (s := []) (by simp) t
  cases h2 : cut2 t with
  | none =>
    rw [h2] at hc
    simp only [hc, Option.map_none]
    unfold sideS
    rw [if_neg (by simp), e0, side_first (by simp [num]) (words_ne 58 t)]
  | some p =>
    obtain ⟨a, b⟩ := p
    rw [h2] at hc
    simp only [hc, Option.map_some]
    have : sideS (58 :: a) false = none := by
      unfold sideS
      rw [if_neg (by simp), show words 58 (58 :: a) = [] :: words 58 a from words_app (s := []) (by simp) a, side_first (by simp [num]) (words_ne 58 a)]
    rw [this]

/-! words with a colon between each two -/
def Good (ws : List Str) : Prop := ∀ w ∈ ws, w ≠ [] ∧ (58 : UInt8) ∉ w
def J (ws : List Str) : Str := Lib.join ws [58]
theorem J_nil : J [] = [] := rfl
theorem J_one (w : Str) : J [w] = w := by simp [J, Lib.join_one]
theorem J_cons (w k : Str) (ws : List Str) : J (w :: k :: ws) = w ++ 58 :: J (k :: ws) := by simp [J, Lib.join, List.intercalate]
theorem J_ne {ws : List Str} (hg : Good ws) (h : ws ≠ []) : J ws ≠ [] := by
  match ws, h with
  | [w], _ => rw [J_one]; exact (hg w (by simp)).1
  | w :: k :: ws, _ => rw [J_cons]; simp
theorem Good.tail {w : Str} {ws : List Str} (h : Good (w :: ws)) : Good ws := fun x hx => h x (by simp [hx])
theorem J_snoc : ∀ (ws : List Str) (w : Str), ws ≠ [] → J (ws ++ [w]) = J ws ++ 58 :: w
  | [], _, h => absurd rfl h
  | [x], w, _ => by simp [J_one, J_cons]
  | x :: y :: ws, w, _ => by
    have := J_snoc (y :: ws) w (by simp)
    rw [List.cons_append, List.cons_append, J_cons, ← List.cons_append, this, J_cons]
    simp
theorem words_J {ws : List Str} (hg : Good ws) (h : ws ≠ []) : words 58 (J ws) = ws := by
  induction ws with
  | nil => exact absurd rfl h
  | cons w r ih =>
    cases r with
    | nil => rw [J_one, words_none (hg w (by simp)).2]
    | cons k ws => rw [J_cons, words_app (hg w (by simp)).2, ih hg.tail (by simp)]
theorem words_J_app {ws : List Str} (hg : Good ws) (h : ws ≠ []) (t : Str) : words 58 (J ws ++ 58 :: t) = ws ++ words 58 t := by
  induction ws with
  | nil => exact absurd rfl h
  | cons w r ih =>
    cases r with
    | nil => rw [J_one, words_app (hg w (by simp)).2]; rfl
    | cons k ws => rw [J_cons, List.append_assoc, List.cons_append, words_app (hg w (by simp)).2, ih hg.tail (by simp)]; rfl
theorem head_J {w : Str} {ws : List Str} (hg : Good (w :: ws)) (t : Str) : (J (w :: ws) ++ t).head? ≠ some 58 := by
  have h := hg w (by simp)
  have : ∃ r, J (w :: ws) = w ++ r := by
    cases ws with
    | nil => exact ⟨[], by rw [J_one]; simp⟩
    | cons k ws => exact ⟨_, J_cons w k ws⟩
  obtain ⟨r, hr⟩ := this
  rw [hr]
  cases w with
  | nil => exact absurd rfl h.1
  | cons b l =>
    have h1 := h.2
    simp at h1 ⊢
    exact fun e => h1.1 e.symm
theorem cut2_J {ws : List Str} (hg : Good ws) (t : Str) : cut2 (J ws ++ t) = (cut2 t).map fun x => (J ws ++ x.1, x.2) := by
  induction ws with
  | nil => simp [J_nil]
  | cons w r ih =>
    cases r with
    | nil => rw [J_one, cut2_app (hg w (by simp)).2]
    | cons k ws =>
      have ih := ih hg.tail
      rw [J_cons, List.append_assoc, List.cons_append, cut2_app (hg w (by simp)).2, cut2_step (head_J hg.tail t), ih]
      cases cut2 t <;> simp
theorem sideS_J {ws : List Str} (hg : Good ws) (last : Bool) : sideS (J ws) last = side last ws := by
  unfold sideS
  by_cases h : ws = []
  · subst h
    rfl
  · rw [if_neg (J_ne hg h), words_J hg h]
theorem get_J {ws : List Str} (hg : Good ws) {gs : List Nat} (hs : side true ws = some gs) (h8 : gs.length = 8) : get (J ws) = some gs := by
  have := cut2_J hg []
  simp [cut2] at this
  unfold get
  rw [this]
  simp only [sideS_J hg, hs, h8, if_true]
theorem get_J_gap {us ws : List Str} (hu : Good us) (hw : Good ws) {a b : List Nat} (ha : side false us = some a) (hb : side true ws = some b) (h : a.length + b.length ≤ 7) : get (J us ++ [58, 58] ++ J ws) = some (fill a b) := by
  have hc : cut2 (J us ++ [58, 58] ++ J ws) = some (J us, J ws) := by
    have := cut2_J hu ([58, 58] ++ J ws)
    rw [List.append_assoc, this]
    simp [cut2]
  unfold get
  rw [hc]
  simp only [sideS_J hu, sideS_J hw, ha, hb, h, if_true]
/-- a colon behind all -/
theorem get_behind {ws : List Str} (hg : Good ws) (h : ws ≠ []) : get (J ws ++ [58]) = none := by
  have hc := cut2_J hg [58]
  have h1 : cut2 [58] = none := by simp [cut2]
  rw [h1] at hc
  unfold get
  simp only [hc, Option.map_none]
  have : sideS (J ws ++ [58]) true = none := by
    unfold sideS
    rw [if_neg (by simp), words_J_app hg h]
    have : words 58 [] = [[]] := rfl
    rw [this]
    clear hc h1 this
    induction ws with
    | nil => exact absurd rfl h
    | cons w r ih =>
      have h0 : side true [[]] = none := by simp [side, wordR, num]
      cases r with
      | nil =>
        show side true (w :: [] :: []) = none
        rw [side_cons, h0]
        cases num 16 4 w <;> rfl
      | cons k ws =>
        have := ih hg.tail (by simp)
        rw [List.cons_append] at this ⊢
        rw [List.cons_append, side_cons, this]
        cases num 16 4 w <;> rfl
  rw [this]
/-- too many ahead of two colons, or of one -/
theorem get_many {ws : List Str} (hg : Good ws) (h : 8 ≤ ws.length) (t : Str) : get (J ws ++ 58 :: t) = none := by
  have hne : ws ≠ [] := by rintro rfl; simp at h
  have hc := cut2_J hg (58 :: t)
  unfold get
  cases h2 : cut2 (58 :: t) with
  | none =>
    rw [h2] at hc
    simp only [hc, Option.map_none]
    cases hs : sideS (J ws ++ 58 :: t) true with
    | none => rfl
    | some l =>
      simp only
      rw [if_neg]
      unfold sideS at hs
      rw [if_neg (by simp), words_J_app hg hne] at hs
      have h1 := side_len hs
      have h2 : 1 ≤ (words 58 t).length := by
        have := words_ne 58 t
        cases hw : words 58 t with
        | nil => exact absurd hw this
        | cons _ _ => simp
      simp at h1
      omega
  | some p =>
    obtain ⟨a, b⟩ := p
    rw [h2] at hc
    simp only [hc, Option.map_some]
    cases hs : sideS (J ws ++ a) false with
    | none => rfl
    | some l =>
      have h1 : 8 ≤ l.length := by
        unfold sideS at hs
        rw [if_neg (by simp [J_ne hg hne])] at hs
        rcases cut2_colon h2 with rfl | ⟨a', rfl⟩
        · rw [List.append_nil, words_J hg hne] at hs
          have := side_len hs
          omega
        · rw [words_J_app hg hne] at hs
          have := side_len hs
          simp at this
          omega
      simp only
      cases sideS b true with
      | none => rfl
      | some m =>
        simp only
        rw [if_neg (by omega)]
/-- a last word that is no number, ahead of two colons -/
theorem side_last {w : Str} (hn : num 16 4 w = none) : ∀ ws : List Str, side false (ws ++ [w]) = none
  | [] => by
    show wordR w false = none
    unfold wordR
    simp [hn]
  | [x] => by
    have := side_last hn []
    show side false (x :: w :: []) = none
    rw [List.nil_append] at this
    rw [side_cons, this]
    cases num 16 4 x <;> rfl
  | x :: y :: ws => by
    have := side_last hn (y :: ws)
    rw [List.cons_append] at this ⊢
    rw [List.cons_append, side_cons, this]
    cases num 16 4 x <;> rfl
theorem get_gap_left {ws : List Str} (hg : Good ws) (hs : side false ws = none) (t : Str) : get (J ws ++ 58 :: 58 :: t) = none := by
  have hc : cut2 (J ws ++ 58 :: 58 :: t) = some (J ws, t) := by
    have := cut2_J hg (58 :: 58 :: t)
    rw [this]
    simp [cut2]
  unfold get
  rw [hc]
  simp only [sideS_J hg, hs]
/-- words that are numbers -/
theorem side_nums {last : Bool} : ∀ {ws : List Str} {gs : List Nat}, ws.map (num 16 4) = gs.map some → side last ws = some gs
  | [], [], _ => rfl
  | [], _ :: _, h => by simp at h
  | w :: ws, [], h => by simp at h
  | [w], g :: gs, h => by
    simp at h
    obtain ⟨h1, rfl⟩ := h
    show wordR w last = some [g]
    unfold wordR
    rw [if_neg (fun e => num_46 h1 e.2), h1]
    rfl
  | w :: k :: ws, g :: gs, h => by
    simp only [List.map_cons, List.cons.injEq] at h
    have := side_nums (last := last) (ws := k :: ws) (gs := gs) (by simpa using h.2)
    rw [side_cons, h.1, this]
theorem side_dec : ∀ {ws : List Str} {gs : List Nat} {w : Str} {x y : Nat}, ws.map (num 16 4) = gs.map some → fours w = some [x, y] → (46 : UInt8) ∈ w → side true (ws ++ [w]) = some (gs ++ [x, y])
  | [], [], w, x, y, _, hf, hm => by
    show wordR w true = _
    unfold wordR
    rw [if_pos ⟨rfl, hm⟩, hf]
    rfl
  | [], _ :: _, _, _, _, h, _, _ => by simp at h
  | _ :: _, [], _, _, _, h, _, _ => by simp at h
  | v :: ws, g :: gs, w, x, y, h, hf, hm => by
    simp only [List.map_cons, List.cons.injEq] at h
    have := side_dec (ws := ws) (gs := gs) h.2 hf hm
    obtain ⟨k, r, e⟩ : ∃ k r, ws ++ [w] = k :: r := by
      cases ws with
      | nil => exact ⟨w, [], rfl⟩
      | cons k r => exact ⟨k, r ++ [w], rfl⟩
    rw [List.cons_append, e, side_cons, h.1, ← e, this]
    rfl

/-! the text of an address: its bytes, how long it is -/
/-- no needless nought, no strange byte; b: a group may begin here -/
def scan : Bool → Str → Prop
  | _, [] => True
  | b, x :: r => ((dig x < 16 ∧ ¬ (65 ≤ x.toNat ∧ x.toNat ≤ 70)) ∨ x = 58) ∧ (x = 48 → b = true → r.head? = none ∨ r.head? = some 58) ∧ scan (x == 58) r
theorem hexd_low : ∀ d : Fin 16, dig (hexd d.1) < 16 ∧ ¬ (65 ≤ (hexd d.1).toNat ∧ (hexd d.1).toNat ≤ 70) ∧ hexd d.1 ≠ 58 ∧ (hexd d.1 = 48 ↔ d.1 = 0) := by decide +kernel
theorem scan_mid {d : Nat} (hd : d < 16) {r : Str} (h : scan false r) : scan false (hexd d :: r) := by
  obtain ⟨h1, h2, h3, _⟩ := hexd_low ⟨d, hd⟩
  refine ⟨.inl ⟨h1, h2⟩, fun _ e => (by cases e), ?_⟩
  rw [show (hexd d == 58) = false by simpa using h3]
  exact h
theorem scan_top {d : Nat} (hd : d < 16) (h0 : d ≠ 0) {r : Str} (h : scan false r) : scan true (hexd d :: r) := by
  obtain ⟨h1, h2, h3, h4⟩ := hexd_low ⟨d, hd⟩
  refine ⟨.inl ⟨h1, h2⟩, fun e _ => absurd (h4.1 e) h0, ?_⟩
  rw [show (hexd d == 58) = false by simpa using h3]
  exact h
theorem scan_alone {d : Nat} (hd : d < 16) {r : Str} (hr : r.head? = none ∨ r.head? = some 58) (h : scan false r) : scan true (hexd d :: r) := by
  obtain ⟨h1, h2, h3, _⟩ := hexd_low ⟨d, hd⟩
  refine ⟨.inl ⟨h1, h2⟩, fun _ _ => hr, ?_⟩
  rw [show (hexd d == 58) = false by simpa using h3]
  exact h
theorem scan_hex {n : Nat} (hn : n < 65536) {r : Str} (hr : r.head? = none ∨ r.head? = some 58) (h : scan false r) : scan true (hex n ++ r) := by
  unfold hex
  split
  · exact scan_alone (by omega) hr h
  · split
    · exact scan_top (by omega) (by omega) (scan_mid (by omega) h)
    · split
      · exact scan_top (by omega) (by omega) (scan_mid (by omega) (scan_mid (by omega) h))
      · exact scan_top (by omega) (by omega) (scan_mid (by omega) (scan_mid (by omega) (scan_mid (by omega) h)))
theorem scan_colon {b : Bool} {r : Str} (h : scan true r) : scan b (58 :: r) := ⟨.inr rfl, (fun e => by cases e), h⟩
theorem scan_written {gs : List Nat} (hl : ∀ g ∈ gs, g < 65536) {r : Str} (hr : r.head? = none ∨ r.head? = some 58) (h : scan false r) (h0 : gs = [] → scan true r) : scan true (written gs ++ r) := by
  induction gs with
  | nil => rw [written_nil]; exact h0 rfl
  | cons g t ih =>
    cases t with
    | nil => rw [written_one]; exact scan_hex (hl g (by simp)) hr h
    | cons k gs =>
      rw [written_cons, List.append_assoc, List.cons_append]
      refine scan_hex (hl g (by simp)) (.inr rfl) (scan_colon ?_)
      exact ih (fun x hx => hl x (by simp [hx])) (fun e => by cases e)
theorem scan_put {gs : List Nat} (hl : ∀ g ∈ gs, g < 65536) : scan true (put gs) := by
  unfold put
  cases run gs with
  | none =>
    have := scan_written hl (r := []) (.inl rfl) trivial (fun _ => trivial)
    simpa using this
  | some p =>
    obtain ⟨f, m⟩ := p
    simp only
    rw [List.append_assoc]
    have h2 : scan true (written (gs.drop (f + m))) := by
      have := scan_written (gs := gs.drop (f + m)) (fun g hg => hl g (List.mem_of_mem_drop hg)) (r := []) (.inl rfl) trivial (fun _ => trivial)
      simpa using this
    exact scan_written (fun g hg => hl g (List.mem_of_mem_take hg)) (.inr rfl) (scan_colon (scan_colon h2)) (fun _ => scan_colon (scan_colon h2))
theorem written_most {gs : List Nat} (h : gs ≠ []) : (written gs).length + 1 ≤ 5 * gs.length := by
  induction gs with
  | nil => exact absurd rfl h
  | cons g r ih =>
    have := hex_len g
    cases r with
    | nil => rw [written_one]; simp; omega
    | cons k gs =>
      have := ih (by simp)
      rw [written_cons]
      simp at this ⊢
      omega
theorem written_least (gs : List Nat) : gs.length ≤ (written gs).length := by
  induction gs with
  | nil => simp
  | cons g r ih =>
    have := hex_len g
    cases r with
    | nil => rw [written_one]; simp; omega
    | cons k gs => rw [written_cons]; simp at ih ⊢; omega
theorem put_len {gs : List Nat} (h8 : gs.length = 8) : 2 ≤ (put gs).length ∧ (put gs).length ≤ 39 := by
  unfold put
  cases h : run gs with
  | none =>
    have := written_most (gs := gs) (by rintro rfl; simp at h8)
    have := written_least gs
    simp only
    omega
  | some p =>
    obtain ⟨f, m⟩ := p
    obtain ⟨h1, h2, h3⟩ := run_some h8 h
    have a1 := written_len (gs.take f)
    have a2 := written_len (gs.drop (f + m))
    simp at a1 a2 ⊢
    omega
end Go.Proofs.YtfaaogidbpfelaaDoor.Tx
