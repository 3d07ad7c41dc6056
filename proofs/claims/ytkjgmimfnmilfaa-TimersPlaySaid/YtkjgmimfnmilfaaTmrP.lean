/-
  Timers as plain data: their order, heaps of them in a list, where each key lies.
  Conditions: none.
-/
import Derived.Test.YtkjgmimfnmilfaaRow
namespace Go.Proofs.Ytkjgmimfnmilfaa.Tm5

structure Tk where
  kd : Int
  id : Int

structure Tm where
  k : Tk
  t : Int

instance : Inhabited Tm := ⟨⟨⟨0, 0⟩, 0⟩⟩

/-- two keys are the same -/
def sameK (a b : Tk) : Bool := decide (a.kd = b.kd ∧ a.id = b.id)
theorem sameK_iff {a b : Tk} : sameK a b = true ↔ a = b := by
  cases a; cases b; simp [sameK]
theorem sameK_no {a b : Tk} : sameK a b = false ↔ a ≠ b := by
  rw [← Bool.not_eq_true, sameK_iff]

/-- a comes ahead of b -/
def lt (a b : Tm) : Bool := decide (a.t < b.t ∨ (a.t = b.t ∧ (a.k.kd < b.k.kd ∨ (a.k.kd = b.k.kd ∧ a.k.id < b.k.id))))
/-- b does not come ahead of a -/
def le (a b : Tm) : Prop := lt b a = false

theorem lt_iff {a b : Tm} : lt a b = true ↔ (a.t < b.t ∨ (a.t = b.t ∧ (a.k.kd < b.k.kd ∨ (a.k.kd = b.k.kd ∧ a.k.id < b.k.id)))) := by simp [lt]
theorem le_iff {a b : Tm} : le a b ↔ ¬ (b.t < a.t ∨ (b.t = a.t ∧ (b.k.kd < a.k.kd ∨ (b.k.kd = a.k.kd ∧ b.k.id < a.k.id)))) := by
  unfold le; rw [← Bool.not_eq_true, lt_iff]
theorem le_refl (a : Tm) : le a a := by rw [le_iff]; omega
theorem le_trans {a b c : Tm} (h : le a b) (k : le b c) : le a c := by rw [le_iff] at *; omega
theorem le_of_lt {a b : Tm} (h : lt a b = true) : le a b := by rw [le_iff]; rw [lt_iff] at h; omega
theorem lt_of_le_ne {a b : Tm} (h : le a b) (hne : a ≠ b) : lt a b = true := by
  rw [le_iff] at h
  rw [lt_iff]
  cases a with | mk ka ta => cases b with | mk kb tb => cases ka with | mk p q => cases kb with | mk r s =>
  have hn : ¬ (p = r ∧ q = s ∧ ta = tb) := fun ⟨h1, h2, h3⟩ => hne (by rw [h1, h2, h3])
  simp at h ⊢
  omega
theorem le_antisymm {a b : Tm} (h : le a b) (k : le b a) : a = b := by
  rw [le_iff] at *
  cases a with | mk ka ta => cases b with | mk kb tb => cases ka with | mk p q => cases kb with | mk r s =>
  simp at *
  omega
theorem le_total (a b : Tm) : le a b ∨ le b a := by rw [le_iff, le_iff]; omega
theorem lt_irrefl (a : Tm) : lt a a = false := le_refl a
theorem lt_trans {a b c : Tm} (h : lt a b = true) (k : lt b c = true) : lt a c = true := by rw [lt_iff] at *; omega

/-! ### a list, by its places -/
def ix (l : List Tm) (i : Nat) : Tm := l.getD i default
def sw (l : List Tm) (i j : Nat) : List Tm := (l.set i (ix l j)).set j (ix l i)

theorem ix_mem {l : List Tm} {i : Nat} (h : i < l.length) : ix l i ∈ l := by
  unfold ix
  rw [List.getD_eq_getElem?_getD, List.getElem?_eq_getElem h]
  exact List.getElem_mem h
theorem mem_ix {l : List Tm} {x : Tm} : x ∈ l ↔ ∃ i, i < l.length ∧ ix l i = x := by
  constructor
  · intro h
    obtain ⟨i, hi, e⟩ := List.getElem_of_mem h
    exact ⟨i, hi, by unfold ix; rw [List.getD_eq_getElem?_getD, List.getElem?_eq_getElem hi]; exact e⟩
  · rintro ⟨i, hi, rfl⟩
    exact ix_mem hi
theorem ix_set {l : List Tm} {i c : Nat} {x : Tm} (h : i < l.length) : ix (l.set i x) c = if c = i then x else ix l c := by
  unfold ix
  rw [List.getD_eq_getElem?_getD, List.getD_eq_getElem?_getD, List.getElem?_set]
  by_cases e : i = c
  · subst e
    simp [h]
  · rw [if_neg e, if_neg (fun h => e h.symm)]
theorem sw_length (l : List Tm) (i j : Nat) : (sw l i j).length = l.length := by simp [sw]
theorem ix_sw {l : List Tm} {i j : Nat} (hi : i < l.length) (hj : j < l.length) (c : Nat) : ix (sw l i j) c = if c = j then ix l i else if c = i then ix l j else ix l c := by
  unfold sw
  rw [ix_set (by simpa using hj)]
  by_cases e : c = j
  · rw [if_pos e, if_pos e]
  · rw [if_neg e, if_neg e, ix_set hi]
theorem sw_mem {l : List Tm} {i j : Nat} (hi : i < l.length) (hj : j < l.length) (x : Tm) : x ∈ sw l i j ↔ x ∈ l := by
  rw [mem_ix, mem_ix]
  constructor
  · rintro ⟨c, hc, rfl⟩
    rw [ix_sw hi hj]
    rw [sw_length] at hc
    by_cases e : c = j
    · rw [if_pos e]; exact ⟨i, hi, rfl⟩
    · rw [if_neg e]
      by_cases e' : c = i
      · rw [if_pos e']; exact ⟨j, hj, rfl⟩
      · rw [if_neg e']; exact ⟨c, hc, rfl⟩
  · rintro ⟨c, hc, rfl⟩
    by_cases e : c = i
    · exact ⟨j, by rw [sw_length]; exact hj, by rw [ix_sw hi hj, if_pos rfl, e]⟩
    · by_cases e' : c = j
      · subst e'
        refine ⟨i, by rw [sw_length]; exact hi, ?_⟩
        rw [ix_sw hi hj, if_neg (fun h => e h.symm), if_pos rfl]
      · exact ⟨c, by rw [sw_length]; exact hc, by rw [ix_sw hi hj, if_neg e', if_neg e]⟩
theorem ix_append_left {l m : List Tm} {i : Nat} (h : i < l.length) : ix (l ++ m) i = ix l i := by
  unfold ix; rw [List.getD_eq_getElem?_getD, List.getD_eq_getElem?_getD, List.getElem?_append_left h]
theorem ix_snoc (l : List Tm) (x : Tm) : ix (l ++ [x]) l.length = x := by
  unfold ix; simp [List.getD_eq_getElem?_getD]

/-! ### heaps -/
/-- the first n are a heap -/
def HP (l : List Tm) (n : Nat) : Prop := ∀ c, 0 < c → c < n → le (ix l ((c - 1) / 2)) (ix l c)
/-- but for the one at i and the one above it -/
def Up (l : List Tm) (n i : Nat) : Prop := (∀ c, 0 < c → c < n → c ≠ i → le (ix l ((c - 1) / 2)) (ix l c)) ∧ (∀ c, 0 < c → c < n → (c - 1) / 2 = i → 0 < i → le (ix l ((i - 1) / 2)) (ix l c))
/-- but for the one at i, and those above and below it -/
def Dn (l : List Tm) (n i : Nat) : Prop := (∀ c, 0 < c → c < n → c ≠ i → (c - 1) / 2 ≠ i → le (ix l ((c - 1) / 2)) (ix l c)) ∧ (∀ c, 0 < c → c < n → (c - 1) / 2 = i → 0 < i → le (ix l ((i - 1) / 2)) (ix l c))

theorem up_done {l : List Tm} {n j : Nat} (h : Up l n j) (hj : j = 0 ∨ le (ix l ((j - 1) / 2)) (ix l j)) : HP l n := by
  intro c h0 hc
  by_cases e : c = j
  · subst e
    rcases hj with hj | hj
    · omega
    · exact hj
  · exact h.1 c h0 hc e
theorem up_step {l : List Tm} {n j : Nat} (h : Up l n j) (h0 : 0 < j) (hj : j < n) (hn : n ≤ l.length) (hl : lt (ix l j) (ix l ((j - 1) / 2)) = true) : Up (sw l ((j - 1) / 2) j) n ((j - 1) / 2) := by
  have hp : (j - 1) / 2 < j := by omega
  have X := ix_sw (l := l) (i := (j - 1) / 2) (j := j) (by omega) (by omega)
  constructor
  · intro c c0 hc hne
    rw [X, X]
    by_cases e : c = j
    · subst e
      rw [if_pos rfl, if_neg (by omega), if_pos rfl]
      exact le_of_lt hl
    · rw [if_neg e, if_neg hne]
      by_cases e1 : (c - 1) / 2 = j
      · rw [if_pos e1]
        exact h.2 c c0 hc e1 h0
      · rw [if_neg e1]
        by_cases e2 : (c - 1) / 2 = (j - 1) / 2
        · rw [if_pos e2]
          have := h.1 c c0 hc e
          rw [e2] at this
          exact le_trans (le_of_lt hl) this
        · rw [if_neg e2]
          exact h.1 c c0 hc e
  · intro c c0 hc e1 hp0
    rw [X, X]
    have hb := h.1 ((j - 1) / 2) hp0 (by omega) (by omega)
    rw [if_neg (show ¬ ((j - 1) / 2 - 1) / 2 = j by omega), if_neg (show ¬ ((j - 1) / 2 - 1) / 2 = (j - 1) / 2 by omega)]
    by_cases e : c = j
    · rw [if_pos e]
      exact hb
    · rw [if_neg e]
      by_cases e2 : c = (j - 1) / 2
      · omega
      · rw [if_neg e2]
        have := h.1 c c0 hc e
        rw [e1] at this
        exact le_trans hb this

theorem dn_done {l : List Tm} {n i : Nat} (h : Dn l n i) (hc : ∀ c, 0 < c → c < n → (c - 1) / 2 = i → le (ix l i) (ix l c)) : Up l n i := by
  refine ⟨fun c c0 cn e => ?_, h.2⟩
  by_cases e1 : (c - 1) / 2 = i
  · rw [e1]; exact hc c c0 cn e1
  · exact h.1 c c0 cn e e1
theorem dn_step {l : List Tm} {n i j : Nat} (h : Dn l n i) (hi : i < l.length) (j0 : 0 < j) (hj : j < n) (hp : (j - 1) / 2 = i) (hn : n ≤ l.length) (hm : ∀ c, 0 < c → c < n → (c - 1) / 2 = i → le (ix l j) (ix l c)) (hl : lt (ix l j) (ix l i) = true) :
    Dn (sw l i j) n j ∧ le (ix (sw l i j) ((j - 1) / 2)) (ix (sw l i j) j) := by
  have X := ix_sw (l := l) (i := i) (j := j) hi (by omega)
  refine ⟨⟨?_, ?_⟩, ?_⟩
  · intro c c0 hc hne hpar
    rw [X, X, if_neg hne, if_neg hpar]
    by_cases e1 : (c - 1) / 2 = i
    · rw [if_pos e1, if_neg (by omega)]
      exact hm c c0 hc e1
    · rw [if_neg e1]
      by_cases e2 : c = i
      · rw [if_pos e2]
        subst e2
        exact h.2 j j0 hj hp c0
      · rw [if_neg e2]
        exact h.1 c c0 hc e2 e1
  · intro c c0 hc e1 _
    rw [X, X, hp, if_neg (by omega), if_pos rfl, if_neg (by omega), if_neg (by omega)]
    have := h.1 c c0 hc (by omega) (by omega)
    rw [e1] at this
    exact this
  · rw [hp, X, X, if_neg (by omega), if_pos rfl, if_pos rfl]
    exact le_of_lt hl

theorem heap_set {l : List Tm} {n i : Nat} {x : Tm} (h : HP l n) (hi : i < l.length) : Dn (l.set i x) n i := by
  have X := fun c => ix_set (l := l) (i := i) (x := x) (c := c) hi
  constructor
  · intro c c0 hc hne hp
    rw [X, X, if_neg hne, if_neg hp]
    exact h c c0 hc
  · intro c c0 hc e1 i0
    rw [X, X, if_neg (by omega), if_neg (by omega)]
    have a := h i i0 (by omega)
    have b := h c c0 hc
    rw [e1] at b
    exact le_trans a b
theorem heap_swap {l : List Tm} {n i : Nat} (h : HP l (n + 1)) (hl : l.length = n + 1) (hi : i < n) : Dn (sw l i n) n i := by
  have X := ix_sw (l := l) (i := i) (j := n) (by omega) (by omega)
  constructor
  · intro c c0 hc hne hp
    rw [X, X, if_neg (show ¬ (c - 1) / 2 = n by omega), if_neg hp, if_neg (show ¬ c = n by omega), if_neg hne]
    exact h c c0 (by omega)
  · intro c c0 hc e1 i0
    rw [X, X, if_neg (by omega), if_neg (by omega), if_neg (by omega), if_neg (by omega)]
    have a := h i i0 (by omega)
    have b := h c c0 (by omega)
    rw [e1] at b
    exact le_trans a b
theorem heap_push {l : List Tm} {n : Nat} {x : Tm} (h : HP l n) (hl : l.length = n) : Up (l ++ [x]) (n + 1) n := by
  constructor
  · intro c c0 hc hne
    rw [ix_append_left (by omega), ix_append_left (by omega)]
    exact h c c0 (by omega)
  · intro c c0 hc e1 _
    omega
theorem heap_mono {l : List Tm} {n m : Nat} (h : HP l n) (hm : m ≤ n) : HP l m := fun c c0 hc => h c c0 (by omega)
theorem heap_take {l : List Tm} {x : Tm} (h : HP (l ++ [x]) l.length) : HP l l.length := by
  intro c c0 hc
  have := h c c0 hc
  rwa [ix_append_left (by omega), ix_append_left (by omega)] at this
theorem heap_root {l : List Tm} {n : Nat} (h : HP l n) : ∀ i, i < n → le (ix l 0) (ix l i) := by
  intro i
  induction i using Nat.strongRecOn with
  | _ i ih =>
    intro hi
    by_cases e : i = 0
    · subst e; exact le_refl _
    · exact le_trans (ih ((i - 1) / 2) (by omega) (by omega)) (h i (by omega) hi)
theorem heap_min {l : List Tm} (h : HP l l.length) : ∀ x ∈ l, le (ix l 0) x := by
  intro x hx
  obtain ⟨i, hi, rfl⟩ := mem_ix.1 hx
  exact heap_root h i hi

/-! ### where each key lies -/
def upd (f : Tk → Option Nat) (k : Tk) (v : Option Nat) : Tk → Option Nat := fun k' => if sameK k' k then v else f k'
theorem upd_same (f : Tk → Option Nat) (k : Tk) (v : Option Nat) : upd f k v k = v := by simp [upd, sameK]
theorem upd_other {f : Tk → Option Nat} {k k' : Tk} {v : Option Nat} (h : k' ≠ k) : upd f k v k' = f k' := by
  unfold upd; rw [if_neg (by rw [sameK_iff]; exact h)]

def Pl (l : List Tm) (f : Tk → Option Nat) : Prop := (∀ i, i < l.length → f (ix l i).k = some i) ∧ (∀ k i, f k = some i → i < l.length ∧ (ix l i).k = k)

theorem Pl.inj {l : List Tm} {f : Tk → Option Nat} (h : Pl l f) {i j : Nat} (hi : i < l.length) (hj : j < l.length) (e : (ix l i).k = (ix l j).k) : i = j := by
  have a := h.1 i hi
  have b := h.1 j hj
  rw [e, b] at a
  injection a with a
  exact a.symm
theorem pl_nil : Pl [] (fun _ => none) := ⟨fun i hi => by simp at hi, fun k i h => by simp at h⟩
theorem pl_swap {l : List Tm} {f : Tk → Option Nat} {i j : Nat} (h : Pl l f) (hi : i < l.length) (hj : j < l.length) : Pl (sw l i j) (upd (upd f (ix l j).k (some i)) (ix l i).k (some j)) := by
  have X := ix_sw (l := l) (i := i) (j := j) hi hj
  constructor
  · intro c hc
    rw [sw_length] at hc
    rw [X]
    by_cases e : c = j
    · rw [if_pos e, upd_same, e]
    · rw [if_neg e]
      by_cases e' : c = i
      · rw [if_pos e']
        by_cases e2 : (ix l j).k = (ix l i).k
        · have := h.inj hj hi e2
          omega
        · rw [upd_other e2, upd_same, e']
      · rw [if_neg e', upd_other (fun q => e' (h.inj hc hi q)), upd_other (fun q => e (h.inj hc hj q))]
        exact h.1 c hc
  · intro k c hk
    rw [sw_length, X]
    by_cases e : k = (ix l i).k
    · subst e
      rw [upd_same] at hk
      injection hk with hk
      subst hk
      exact ⟨hj, by rw [if_pos rfl]⟩
    · rw [upd_other e] at hk
      by_cases e' : k = (ix l j).k
      · subst e'
        rw [upd_same] at hk
        injection hk with hk
        subst hk
        refine ⟨hi, ?_⟩
        by_cases e2 : i = j
        · subst e2
          exact absurd rfl e
        · rw [if_neg e2, if_pos rfl]
      · rw [upd_other e'] at hk
        obtain ⟨hc, hk⟩ := h.2 k c hk
        refine ⟨hc, ?_⟩
        rw [if_neg (fun q => e' (by rw [← hk, q])), if_neg (fun q => e (by rw [← hk, q]))]
        exact hk
theorem pl_push {l : List Tm} {f : Tk → Option Nat} {x : Tm} (h : Pl l f) (hx : f x.k = none) : Pl (l ++ [x]) (upd f x.k (some l.length)) := by
  constructor
  · intro c hc
    simp at hc
    by_cases e : c = l.length
    · rw [e, ix_snoc, upd_same]
    · have hc' : c < l.length := by omega
      have q := h.1 c hc'
      rw [ix_append_left hc', upd_other (fun e2 => by rw [e2, hx] at q; cases q)]
      exact q
  · intro k c hk
    by_cases e : k = x.k
    · subst e
      rw [upd_same] at hk
      injection hk with hk
      subst hk
      exact ⟨by simp, by rw [ix_snoc]⟩
    · rw [upd_other e] at hk
      obtain ⟨hc, hk⟩ := h.2 k c hk
      exact ⟨by simp; omega, by rw [ix_append_left hc]; exact hk⟩
theorem pl_pop {l : List Tm} {f : Tk → Option Nat} {x : Tm} (h : Pl (l ++ [x]) f) : Pl l (upd f x.k none) := by
  constructor
  · intro c hc
    have q := h.1 c (by simp; omega)
    have r := h.1 l.length (by simp)
    rw [ix_snoc] at r
    rw [ix_append_left hc] at q
    rw [upd_other (fun e => by rw [e, r] at q; injection q with q; omega)]
    exact q
  · intro k c hk
    by_cases e : k = x.k
    · subst e
      rw [upd_same] at hk
      cases hk
    · rw [upd_other e] at hk
      obtain ⟨hc, hk⟩ := h.2 k c hk
      simp at hc
      by_cases e2 : c = l.length
      · subst e2
        rw [ix_snoc] at hk
        exact absurd hk.symm e
      · exact ⟨by omega, by rw [ix_append_left (by omega)] at hk; exact hk⟩
theorem pl_set {l : List Tm} {f : Tk → Option Nat} {i : Nat} {x : Tm} (h : Pl l f) (hi : i < l.length) (hx : x.k = (ix l i).k) : Pl (l.set i x) f := by
  have X := fun c => ix_set (l := l) (i := i) (x := x) (c := c) hi
  have K : ∀ c, (ix (l.set i x) c).k = (ix l c).k := by
    intro c
    rw [X]
    split
    · rename_i e
      rw [e, hx]
    · rfl
  constructor
  · intro c hc
    rw [K]
    exact h.1 c (by simpa using hc)
  · intro k c hk
    rw [K]
    simpa using h.2 k c hk

/-! ### a list as a set of timers, each key once -/
def Kn (l : List Tm) : Prop := l.Pairwise (fun a b => a.k ≠ b.k)
theorem Kn.one {l : List Tm} (h : Kn l) {x y : Tm} (hx : x ∈ l) (hy : y ∈ l) (e : x.k = y.k) : x = y := by
  induction l with
  | nil => cases hx
  | cons a l ih =>
    obtain ⟨h1, h2⟩ := List.pairwise_cons.1 h
    rcases List.mem_cons.1 hx with rfl | hx'
    · rcases List.mem_cons.1 hy with rfl | hy'
      · rfl
      · exact absurd e (h1 y hy')
    · rcases List.mem_cons.1 hy with rfl | hy'
      · exact absurd e.symm (h1 x hx')
      · exact ih h2 hx' hy'
theorem Kn.nodup {l : List Tm} (h : Kn l) : l.Nodup := by
  refine List.Pairwise.imp ?_ h
  intro a b hab e
  exact hab (by rw [e])
theorem Pl.kn {l : List Tm} {f : Tk → Option Nat} (h : Pl l f) : Kn l := by
  unfold Kn
  rw [List.pairwise_iff_getElem]
  intro i j hi hj hij e
  have hx : ∀ c (hc : c < l.length), ix l c = l[c] := fun c hc => by unfold ix; rw [List.getD_eq_getElem?_getD, List.getElem?_eq_getElem hc]; rfl
  have := h.inj hi hj (by rw [hx i hi, hx j hj]; exact e)
  omega
theorem perm_of {l m : List Tm} (hl : Kn l) (hm : Kn m) (h : ∀ x, x ∈ l ↔ x ∈ m) : l.Perm m := (List.perm_ext_iff_of_nodup hl.nodup hm.nodup).2 h
theorem len_of {l m : List Tm} (hl : Kn l) (hm : Kn m) (h : ∀ x, x ∈ l ↔ x ∈ m) : l.length = m.length := (perm_of hl hm h).length_eq
theorem kn_nil : Kn [] := List.Pairwise.nil

/-- what arming makes of a set, what cancelling does -/
def Armed (l m : List Tm) (x : Tm) : Prop := ∀ y, y ∈ m ↔ y = x ∨ (y ∈ l ∧ y.k ≠ x.k)
def Gone (l m : List Tm) (k : Tk) : Prop := ∀ y, y ∈ m ↔ (y ∈ l ∧ y.k ≠ k)
theorem armed_len_new {l m : List Tm} {x : Tm} (hl : Kn l) (hm : Kn m) (h : Armed l m x) (hx : ∀ y ∈ l, y.k ≠ x.k) : m.length = l.length + 1 := by
  have hk : Kn (x :: l) := List.pairwise_cons.2 ⟨fun y hy e => hx y hy e.symm, hl⟩
  have := len_of hm hk (fun y => by
    rw [h y, List.mem_cons]
    exact ⟨fun q => q.imp id (fun q => q.1), fun q => q.imp id (fun q => ⟨q, hx y q⟩)⟩)
  simpa using this
theorem kn_filter {l : List Tm} (h : Kn l) (p : Tm → Bool) : Kn (l.filter p) := List.Pairwise.filter _ h
theorem gone_len {l m : List Tm} {x : Tm} (hl : Kn l) (hm : Kn m) (h : Gone l m x.k) (hx : x ∈ l) : m.length + 1 = l.length := by
  have hk : Kn (x :: m) := List.pairwise_cons.2 ⟨fun y hy e => ((h y).1 hy).2 e.symm, hm⟩
  have := len_of hk hl (fun y => by
    rw [List.mem_cons, h y]
    constructor
    · rintro (rfl | q)
      · exact hx
      · exact q.1
    · intro q
      by_cases e : y.k = x.k
      · exact .inl (hl.one q hx e)
      · exact .inr ⟨q, e⟩)
  simpa using this
theorem gone_none {l m : List Tm} {k : Tk} (h : Gone l m k) (hx : ∀ y ∈ l, y.k ≠ k) : ∀ y, y ∈ m ↔ y ∈ l := fun y => by
  rw [h y]
  exact ⟨fun q => q.1, fun q => ⟨q, hx y q⟩⟩
theorem armed_len_old {l m : List Tm} {x y : Tm} (hl : Kn l) (hm : Kn m) (h : Armed l m x) (hy : y ∈ l) (e : y.k = x.k) : m.length = l.length := by
  have hk : Kn (l.filter (fun z => !sameK z.k x.k)) := kn_filter hl _
  have hmem : ∀ z, z ∈ l.filter (fun z => !sameK z.k x.k) ↔ z ∈ l ∧ z.k ≠ x.k := fun z => by
    rw [List.mem_filter]
    simp [sameK_no]
  have g : Gone l (l.filter (fun z => !sameK z.k x.k)) y.k := fun z => by rw [e]; exact hmem z
  have g1 := gone_len hl hk g hy
  have h2 := armed_len_new hk hm (x := x) (fun z => by
    rw [h z, hmem z]
    exact ⟨fun q => q.imp id (fun q => ⟨q, q.2⟩), fun q => q.imp id (fun q => q.1)⟩) (fun z hz => ((hmem z).1 hz).2)
  omega
end Go.Proofs.Ytkjgmimfnmilfaa.Tm5
