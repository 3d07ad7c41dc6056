/-
  Texts of addresses as plain lists of bytes: what the text of eight groups is, and which groups a text has; the text of an address is one, of it.
  Conditions: none.
-/
import Derived.Lib.Join
import Derived.Lib.CutLaws
import Derived.Lib.Bytealg
namespace Go.Proofs.YtfaaogidbpfelaaDoor.Tx

abbrev Str := List UInt8

/-- digits of 16 -/
def hexd (d : Nat) : UInt8 := if d < 10 then (48 + d).toUInt8 else (87 + d).toUInt8
def hex (n : Nat) : Str :=
  if n < 16 then [hexd n] else if n < 256 then [hexd (n / 16), hexd (n % 16)] else if n < 4096 then [hexd (n / 256), hexd (n / 16 % 16), hexd (n % 16)]
  else [hexd (n / 4096), hexd (n / 256 % 16), hexd (n / 16 % 16), hexd (n % 16)]
/-- a digit's number; 16: it is none -/
def dig (b : UInt8) : Nat := if 48 ≤ b.toNat ∧ b.toNat ≤ 57 then b.toNat - 48 else if 97 ≤ b.toNat ∧ b.toNat ≤ 102 then b.toNat - 87 else if 65 ≤ b.toNat ∧ b.toNat ≤ 70 then b.toNat - 55 else 16
def numF (base : Nat) : Nat → Str → Option Nat
  | n, [] => some n
  | n, b :: r => if dig b < base then numF base (n * base + dig b) r else none
def num (base most : Nat) (s : Str) : Option Nat := if s = [] ∨ most < s.length then none else numF base 0 s
/-- a byte, in decimals -/
def dec (s : Str) : Option Nat := if 1 < s.length ∧ s.head? = some 48 then none else match num 10 3 s with
  | some m => if m ≤ 255 then some m else none
  | none => none
/-- what stands between bytes c -/
def words (c : UInt8) : Str → List Str
  | [] => [[]]
  | x :: r => if x = c then [] :: words c r else match words c r with
    | h :: t => (x :: h) :: t
    | [] => [[x]]
def fours (s : Str) : Option (List Nat) := match words 46 s with
  | [a, b, c, d] => match dec a, dec b, dec c, dec d with
    | some a, some b, some c, some d => some [a * 256 + b, c * 256 + d]
    | _, _, _, _ => none
  | _ => none
def wordR (w : Str) (last : Bool) : Option (List Nat) := if last = true ∧ 46 ∈ w then fours w else (num 16 4 w).map fun v => [v]
def side (last : Bool) : List Str → Option (List Nat)
  | [] => some []
  | [w] => wordR w last
  | w :: ws => match num 16 4 w with
    | some v => match side last ws with
      | some l => some (v :: l)
      | none => none
    | none => none
def sideS (s : Str) (last : Bool) : Option (List Nat) := if s = [] then some [] else side last (words 58 s)
/-- what stands ahead of the first two colons, and behind them -/
def cut2 : Str → Option (Str × Str)
  | [] => none
  | x :: r => if x = 58 ∧ r.head? = some 58 then some ([], r.tail) else match cut2 r with
    | some (a, b) => some (x :: a, b)
    | none => none
def fill (l m : List Nat) : List Nat := l ++ List.replicate (8 - (l.length + m.length)) 0 ++ m
/-- the groups of a text -/
def get (s : Str) : Option (List Nat) := match cut2 s with
  | none => match sideS s true with
    | some l => if l.length = 8 then some l else none
    | none => none
  | some (a, b) => match sideS a false with
    | some l => match sideS b true with
      | some m => if l.length + m.length ≤ 7 then some (fill l m) else none
      | none => none
    | none => none

def written (gs : List Nat) : Str := Lib.join (gs.map hex) [58]
/-- the first run of so many noughts -/
def findF (zs : List Bool) (many : Nat) : List Nat → Option Nat
  | [] => none
  | f :: r => if (zs.drop f).take many = List.replicate many true then some f else findF zs many r
def findM (zs : List Bool) : List Nat → Option (Nat × Nat)
  | [] => none
  | m :: r => match findF zs m (List.range (9 - m)) with
    | some f => some (f, m)
    | none => findM zs r
/-- the longest run of two or more; of several the first -/
def run (gs : List Nat) : Option (Nat × Nat) := findM (gs.map (· == 0)) [8, 7, 6, 5, 4, 3, 2]
/-- the text of groups -/
def put (gs : List Nat) : Str := match run gs with
  | some (f, m) => written (gs.take f) ++ [58, 58] ++ written (gs.drop (f + m))
  | none => written gs

/-! digits -/
theorem hexd_dig : ∀ d : Fin 16, dig (hexd d.1) = d.1 ∧ hexd d.1 ≠ 58 ∧ hexd d.1 ≠ 46 := by decide +kernel
theorem dig_hexd {d : Nat} (h : d < 16) : dig (hexd d) = d := (hexd_dig ⟨d, h⟩).1
theorem hexd_58 {d : Nat} (h : d < 16) : hexd d ≠ 58 := (hexd_dig ⟨d, h⟩).2.1
theorem hexd_46 {d : Nat} (h : d < 16) : hexd d ≠ 46 := (hexd_dig ⟨d, h⟩).2.2
theorem hex_all {n : Nat} (h : n < 65536) (p : UInt8 → Prop) (hp : ∀ d, d < 16 → p (hexd d)) : ∀ b ∈ hex n, p b := by
  unfold hex
  intro b hb
  split at hb
  · simp at hb; subst hb; exact hp _ (by omega)
  · split at hb
    · simp at hb; rcases hb with rfl | rfl <;> exact hp _ (by omega)
    · split at hb
      · simp at hb; rcases hb with rfl | rfl | rfl <;> exact hp _ (by omega)
      · simp at hb; rcases hb with rfl | rfl | rfl | rfl <;> exact hp _ (by omega)
theorem hex_58 {n : Nat} (h : n < 65536) : (58 : UInt8) ∉ hex n := fun hm => hex_all h (· ≠ 58) (fun _ hd => hexd_58 hd) _ hm rfl
theorem hex_46 {n : Nat} (h : n < 65536) : (46 : UInt8) ∉ hex n := fun hm => hex_all h (· ≠ 46) (fun _ hd => hexd_46 hd) _ hm rfl
theorem hex_len (n : Nat) : 1 ≤ (hex n).length ∧ (hex n).length ≤ 4 := by
  unfold hex
  split
  · simp
  · split
    · simp
    · split <;> simp
theorem hex_ne (n : Nat) : hex n ≠ [] := fun h => by have := (hex_len n).1; rw [h] at this; simp at this
theorem num_hex {n : Nat} (h : n < 65536) : num 16 4 (hex n) = some n := by
  have l := hex_len n
  unfold num
  rw [if_neg (by rintro (h | h); exact hex_ne n h; omega)]
  unfold hex
  split
  · rename_i h1
    simp only [numF, dig_hexd h1]
    rw [if_pos (by omega)]
    simp
  · split
    · simp only [numF]
      rw [dig_hexd (by omega), dig_hexd (by omega), if_pos (by omega), if_pos (by omega)]
      congr 1
      omega
    · split
      · simp only [numF]
        rw [dig_hexd (by omega), dig_hexd (by omega), dig_hexd (by omega), if_pos (by omega), if_pos (by omega), if_pos (by omega)]
        congr 1
        omega
      · simp only [numF]
        rw [dig_hexd (by omega), dig_hexd (by omega), dig_hexd (by omega), dig_hexd (by omega), if_pos (by omega), if_pos (by omega), if_pos (by omega), if_pos (by omega)]
        congr 1
        omega

/-! words -/
theorem words_ne (c : UInt8) (s : Str) : words c s ≠ [] := by
  cases s with
  | nil => simp [words]
  | cons x r =>
    unfold words
    split
    · simp
    · split <;> simp
theorem words_none {c : UInt8} {s : Str} (h : c ∉ s) : words c s = [s] := by
  induction s with
  | nil => rfl
  | cons x r ih =>
    simp at h
    unfold words
    rw [if_neg (fun e => h.1 e.symm), ih h.2]
theorem words_app {c : UInt8} {s : Str} (h : c ∉ s) (t : Str) : words c (s ++ c :: t) = s :: words c t := by
  induction s with
  | nil => simp [words]
  | cons x r ih =>
    simp at h
    rw [List.cons_append, words, if_neg (fun e => h.1 e.symm), ih h.2]
theorem written_nil : written [] = [] := rfl
theorem written_one (g : Nat) : written [g] = hex g := by simp [written, Lib.join_one]
theorem written_cons (g k : Nat) (gs : List Nat) : written (g :: k :: gs) = hex g ++ 58 :: written (k :: gs) := by
  simp [written, Lib.join, List.intercalate]
theorem written_ne {gs : List Nat} (h : gs ≠ []) : written gs ≠ [] := by
  match gs, h with
  | [g], _ => rw [written_one]; exact hex_ne g
  | g :: k :: gs, _ => rw [written_cons]; simp
theorem words_written {gs : List Nat} (h : gs ≠ []) (hl : ∀ g ∈ gs, g < 65536) : words 58 (written gs) = gs.map hex := by
  induction gs with
  | nil => exact absurd rfl h
  | cons g r ih =>
    cases r with
    | nil => rw [written_one, words_none (hex_58 (hl g (by simp)))]; rfl
    | cons k gs =>
      rw [written_cons, words_app (hex_58 (hl g (by simp))), ih (by simp) (fun x hx => hl x (by simp [hx]))]
      rfl
theorem wordR_hex {g : Nat} (h : g < 65536) (last : Bool) : wordR (hex g) last = some [g] := by
  unfold wordR
  rw [if_neg (fun e => hex_46 h e.2), num_hex h]
  rfl
theorem side_cons {last : Bool} {w k : Str} {ws : List Str} : side last (w :: k :: ws) = match num 16 4 w with
    | some v => match side last (k :: ws) with
      | some l => some (v :: l)
      | none => none
    | none => none := rfl
theorem side_hex {gs : List Nat} (hl : ∀ g ∈ gs, g < 65536) (last : Bool) : side last (gs.map hex) = some gs := by
  induction gs with
  | nil => rfl
  | cons g r ih =>
    cases r with
    | nil => exact wordR_hex (hl g (by simp)) last
    | cons k gs =>
      have := ih (fun x hx => hl x (by simp [hx]))
      simp only [List.map_cons] at this ⊢
      rw [side_cons, num_hex (hl g (by simp)), this]
theorem sideS_written {gs : List Nat} (hl : ∀ g ∈ gs, g < 65536) (last : Bool) : sideS (written gs) last = some gs := by
  unfold sideS
  by_cases h : gs = []
  · subst h
    rfl
  · rw [if_neg (written_ne h), words_written h hl, side_hex hl]

/-! two colons -/
theorem cut2_app {s : Str} (h : (58 : UInt8) ∉ s) (t : Str) : cut2 (s ++ t) = (cut2 t).map fun x => (s ++ x.1, x.2) := by
  induction s with
  | nil => simp
  | cons x r ih =>
    simp at h
    rw [List.cons_append, cut2, if_neg (fun e => h.1 e.1.symm), ih h.2]
    cases cut2 t <;> simp
theorem cut2_step {t : Str} (h : t.head? ≠ some 58) : cut2 (58 :: t) = (cut2 t).map fun x => (58 :: x.1, x.2) := by
  rw [cut2, if_neg (fun e => h e.2)]
  cases cut2 t <;> simp
theorem head_written {g : Nat} {gs : List Nat} (hg : g < 65536) (t : Str) : (written (g :: gs) ++ t).head? ≠ some 58 := by
  have h1 := hex_58 hg
  have h2 := hex_ne g
  have : ∃ r, written (g :: gs) = hex g ++ r := by
    cases gs with
    | nil => exact ⟨[], by rw [written_one]; simp⟩
    | cons k gs => exact ⟨_, written_cons g k gs⟩
  obtain ⟨r, hr⟩ := this
  rw [hr]
  cases hh : hex g with
  | nil => exact absurd hh h2
  | cons b l =>
    rw [hh] at h1
    simp at h1 ⊢
    exact fun e => h1.1 e.symm
theorem cut2_written {gs : List Nat} (hl : ∀ g ∈ gs, g < 65536) (t : Str) :
    cut2 (written gs ++ t) = (cut2 t).map fun x => (written gs ++ x.1, x.2) := by
  induction gs with
  | nil => simp [written_nil]
  | cons g r ih =>
    cases r with
    | nil => rw [written_one, cut2_app (hex_58 (hl g (by simp)))]
    | cons k gs =>
      have ih := ih (fun x hx => hl x (by simp [hx]))
      rw [written_cons, List.append_assoc, List.cons_append, cut2_app (hex_58 (hl g (by simp))), cut2_step (head_written (hl k (by simp)) t), ih]
      cases cut2 t <;> simp
theorem get_plain {gs : List Nat} (hl : ∀ g ∈ gs, g < 65536) (h8 : gs.length = 8) : get (written gs) = some gs := by
  have := cut2_written hl []
  simp [cut2] at this
  unfold get
  rw [this]
  simp only [sideS_written hl, h8, if_true]
theorem cut2_gap {gs : List Nat} (hl : ∀ g ∈ gs, g < 65536) (t : Str) : cut2 (written gs ++ [58, 58] ++ t) = some (written gs, t) := by
  have := cut2_written hl ([58, 58] ++ t)
  rw [List.append_assoc, this]
  simp [cut2]
theorem get_gap {a b : List Nat} (ha : ∀ g ∈ a, g < 65536) (hb : ∀ g ∈ b, g < 65536) (h : a.length + b.length ≤ 7) : get (written a ++ [58, 58] ++ written b) = some (fill a b) := by
  unfold get
  rw [cut2_gap ha]
  simp only [sideS_written ha, sideS_written hb, h, if_true]

/-! the longest run -/
def okRun (zs : List Bool) : Option (Nat × Nat) → Bool
  | some (x, m) => decide (2 ≤ m ∧ x + m ≤ 8 ∧ (zs.drop x).take m = List.replicate m true)
  | none => true
theorem run8 : ∀ a b c d e f g h : Bool, okRun [a, b, c, d, e, f, g, h] (findM [a, b, c, d, e, f, g, h] [8, 7, 6, 5, 4, 3, 2]) = true := by decide +kernel
theorem run_some {gs : List Nat} (h8 : gs.length = 8) {f m : Nat} (h : run gs = some (f, m)) : 2 ≤ m ∧ f + m ≤ 8 ∧ (gs.drop f).take m = List.replicate m 0 := by
  match gs, h8 with
  | [a, b, c, d, e, g, i, j], _ =>
    have := run8 (a == 0) (b == 0) (c == 0) (d == 0) (e == 0) (g == 0) (i == 0) (j == 0)
    unfold run at h
    simp only [List.map_cons, List.map_nil] at h
    rw [h] at this
    obtain ⟨h1, h2, h3⟩ := of_decide_eq_true this
    refine ⟨h1, h2, ?_⟩
    apply List.ext_getElem
    · simp; omega
    · intro k hk1 hk2
      simp at hk1
      have hk : k < m := by omega
      have e2 : ((([a, b, c, d, e, g, i, j].map (· == 0)).drop f).take m)[k]? = some true := by
        simp only [List.map_cons, List.map_nil]
        rw [h3]
        simp [hk]
      rw [List.getElem?_take, if_pos hk, List.getElem?_drop, List.getElem?_map] at e2
      rw [List.getElem_take, List.getElem_drop, List.getElem_replicate]
      rw [List.getElem?_eq_getElem (by simp; omega)] at e2
      simpa using e2
theorem parts_fill {gs : List Nat} (h8 : gs.length = 8) {f m : Nat} (h2 : f + m ≤ 8) (h3 : (gs.drop f).take m = List.replicate m 0) : fill (gs.take f) (gs.drop (f + m)) = gs := by
  unfold fill
  have e : 8 - ((gs.take f).length + (gs.drop (f + m)).length) = m := by simp; omega
  rw [e, ← h3]
  have : gs.drop (f + m) = (gs.drop f).drop m := by rw [List.drop_drop]
  rw [this, List.append_assoc, List.take_append_drop, List.take_append_drop]
/-- the text of groups is one, of them -/
theorem get_put {gs : List Nat} (h8 : gs.length = 8) (hl : ∀ g ∈ gs, g < 65536) : get (put gs) = some gs := by
  unfold put
  cases h : run gs with
  | none => exact get_plain hl h8
  | some x =>
    obtain ⟨f, m⟩ := x
    obtain ⟨h1, h2, h3⟩ := run_some h8 h
    simp only []
    rw [get_gap (fun g hg => hl g (List.mem_of_mem_take hg)) (fun g hg => hl g (List.mem_of_mem_drop hg)) (by simp; omega), parts_fill h8 h2 h3]
theorem put_inj {gs hs : List Nat} (h8 : gs.length = 8) (hl : ∀ g ∈ gs, g < 65536) (k8 : hs.length = 8) (kl : ∀ g ∈ hs, g < 65536) (h : put gs = put hs) : gs = hs := by
  have := get_put h8 hl
  rw [h, get_put k8 kl] at this
  exact (Option.some.inj this).symm
theorem written_len (gs : List Nat) : (written gs).length ≤ 5 * gs.length := by
  induction gs with
  | nil => simp [written_nil]
  | cons g r ih =>
    have := hex_len g
    cases r with
    | nil => rw [written_one]; simp; omega
    | cons k gs => rw [written_cons]; simp at ih ⊢; omega
end Go.Proofs.YtfaaogidbpfelaaDoor.Tx
