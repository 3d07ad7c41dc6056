/-
  A set of timers by what it holds, a plain list, each key once: what each call answers, and what it holds then.
  Conditions: at most 256 timers.
-/
import Derived.Test.YtkjgmimfnmilfaaTmrX
namespace Go.Proofs.Ytkjgmimfnmilfaa.Tm5
open Go.RowKit Go.Proofs.Ytkjgmimfnmilfaa.Ops

/-! ### plain lists -/
def has (L : List Tm) (k : Tk) : Bool := L.any (fun y => sameK y.k k)
def rep (x y : Tm) : Tm := if sameK y.k x.k then x else y
def put (L : List Tm) (x : Tm) : List Tm := if has L x.k then L.map (rep x) else L ++ [x]
def del (L : List Tm) (k : Tk) : List Tm := L.filter (fun y => !sameK y.k k)

theorem has_yes {L : List Tm} {k : Tk} : has L k = true ↔ ∃ y ∈ L, y.k = k := by
  simp [has, sameK_iff]
theorem has_no {L : List Tm} {k : Tk} : has L k = false ↔ ∀ y ∈ L, y.k ≠ k := by
  rw [← Bool.not_eq_true, has_yes]
  exact ⟨fun h y hy e => h ⟨y, hy, e⟩, fun h ⟨y, hy, e⟩ => h y hy e⟩
theorem mem_del {L : List Tm} {k : Tk} {y : Tm} : y ∈ del L k ↔ y ∈ L ∧ y.k ≠ k := by
  unfold del
  rw [List.mem_filter]
  simp [sameK_no]
theorem rep_k (x y : Tm) : (rep x y).k = y.k := by
  unfold rep
  split
  · rename_i h
    exact (sameK_iff.1 h).symm
  · rfl
theorem mem_put {L : List Tm} {x : Tm} : Armed L (put L x) x := by
  intro y
  unfold put
  cases h : has L x.k with
  | true =>
    rw [if_pos rfl, List.mem_map]
    obtain ⟨z, hz, e⟩ := has_yes.1 h
    constructor
    · rintro ⟨a, ha, rfl⟩
      unfold rep
      split
      · exact .inl rfl
      · rename_i q
        exact .inr ⟨ha, fun e => q (sameK_iff.2 e)⟩
    · rintro (rfl | ⟨hy, hk⟩)
      · exact ⟨z, hz, by unfold rep; rw [if_pos (sameK_iff.2 e)]⟩
      · exact ⟨y, hy, by unfold rep; rw [if_neg (fun q => hk (sameK_iff.1 q))]⟩
  | false =>
    rw [if_neg (by simp), List.mem_append]
    have h' := has_no.1 h
    constructor
    · rintro (hy | hy)
      · exact .inr ⟨hy, h' y hy⟩
      · simp at hy; exact .inl hy
    · rintro (rfl | ⟨hy, _⟩)
      · simp
      · exact .inl hy
theorem kn_put {L : List Tm} {x : Tm} (h : Kn L) : Kn (put L x) := by
  unfold put
  cases hh : has L x.k with
  | true =>
    rw [if_pos rfl]
    unfold Kn
    rw [List.pairwise_map]
    refine List.Pairwise.imp ?_ h
    intro a b hab
    rw [rep_k, rep_k]
    exact hab
  | false =>
    rw [if_neg (by simp)]
    have h' := has_no.1 hh
    unfold Kn
    rw [List.pairwise_append]
    exact ⟨h, by simp, fun a ha b hb => by simp at hb; subst hb; exact h' a ha⟩
theorem kn_del {L : List Tm} {k : Tk} (h : Kn L) : Kn (del L k) := kn_filter h _
theorem put_len {L : List Tm} {x : Tm} : (put L x).length = if has L x.k then L.length else L.length + 1 := by
  unfold put
  split <;> simp
theorem del_len {L : List Tm} {x : Tm} (h : Kn L) (hx : x ∈ L) : (del L x.k).length + 1 = L.length := gone_len h (kn_del h) (fun _ => mem_del) hx
theorem least_same {l L : List Tm} {x : Tm} (h : ∀ y, y ∈ l ↔ y ∈ L) (hx : Least L x) : Least l x := ⟨(h x).2 hx.1, fun y hy => hx.2 y ((h y).1 hy)⟩
theorem least_one {L : List Tm} {x y : Tm} (hx : Least L x) (hy : Least L y) : x = y := le_antisymm (hx.2 y hy.1) (hy.2 x hx.1)

/-! ### a set that holds just these -/
def Sx (w : World) (s : Nat) (F : List Nat) (L : List Tm) : Prop := ∃ l, Ts w s F l ∧ (∀ y, y ∈ l ↔ y ∈ L) ∧ Kn L
def Tx (w w' : World) (s : Nat) (F : List Nat) (L : List Tm) : Prop := ∃ F', Sx w' s F' L ∧ Kept F w w' ∧ ∀ z ∈ F', z ∈ F ∨ w.heap.size ≤ z

theorem Sx.keep {w w' : World} {s : Nat} {F : List Nat} {L : List Tm} (h : Sx w s F L) (k : Below w.heap.size w w') : Sx w' s F L := by
  obtain ⟨l, h1, h2, h3⟩ := h
  exact ⟨l, h1.keep k, h2, h3⟩
theorem Sx.kept {w w' : World} {s : Nat} {F G : List Nat} {L : List Tm} (h : Sx w s F L) (k : Kept G w w') (hG : ∀ x ∈ F, x ∉ G) : Sx w' s F L := by
  obtain ⟨l, h1, h2, h3⟩ := h
  exact ⟨l, h1.kept k hG, h2, h3⟩
theorem Sx.kn {w : World} {s : Nat} {F : List Nat} {L : List Tm} (h : Sx w s F L) : Kn L := by obtain ⟨l, h1, h2, h3⟩ := h; exact h3
theorem Sx.len {w : World} {s : Nat} {F : List Nat} {L l : List Tm} (h1 : Ts w s F l) (h2 : ∀ y, y ∈ l ↔ y ∈ L) (h3 : Kn L) : l.length = L.length := len_of h1.kn h3 h2
theorem Sx.lim {w : World} {s : Nat} {F : List Nat} {L : List Tm} (h : Sx w s F L) : L.length ≤ 256 := by
  obtain ⟨l, h1, h2, h3⟩ := h
  rw [← Sx.len h1 h2 h3]
  exact h1.lim
theorem Sx.ok {w : World} {s : Nat} {F : List Nat} {L : List Tm} (h : Sx w s F L) : ∀ x ∈ L, x.ok := by
  obtain ⟨l, h1, h2, h3⟩ := h
  exact fun x hx => h1.ok x ((h2 x).2 hx)
theorem Sx.lt {w : World} {s : Nat} {F : List Nat} {L : List Tm} (h : Sx w s F L) : ∀ x ∈ F, x < w.heap.size := by
  obtain ⟨l, h1, _⟩ := h
  exact h1.lt
theorem Tx.same {w w' : World} {s : Nat} {F : List Nat} {L : List Tm} (h : Sx w s F L) (k : Below w.heap.size w w') : Tx w w' s F L := ⟨F, h.keep k, kept_below k, fun _ hz => .inl hz⟩
theorem tx_of {w w' : World} {s : Nat} {F : List Nat} {L l' : List Tm} (h : Turn w w' s F l') (hm : ∀ y, y ∈ l' ↔ y ∈ L) (hk : Kn L) : Tx w w' s F L := by
  obtain ⟨F', h1, h2, h3⟩ := h
  exact ⟨F', ⟨l', h1, hm, hk⟩, h2, h3⟩

section
variable {w : World} {s : Nat} {F : List Nat} {L : List Tm}
theorem sx_len (h : Sx w s F L) (n : Nat) (hn : L.length = n) : Calls Try.prog 16 #[.pointer (some ⟨s, 0, none⟩)] w fun e w' => e = .returned (.int .i64 n) ∧ w = w' := by
  obtain ⟨l, h1, h2, h3⟩ := h
  exact tlen h1 n (by rw [← hn]; exact Sx.len h1 h2 h3)
theorem sx_arm (h : Sx w s F L) (x : Tm) (hx : x.ok) (hc : has L x.k = true ∨ L.length < 256) :
    Calls Try.prog 14 #[.pointer (some ⟨s, 0, none⟩), .agg #[.int .u8 x.k.kd, .int .u64 x.k.id], .int .u64 x.t] w fun e w' => e = .returned (.int .i64 0) ∧ Tx w w' s F (put L x) := by
  obtain ⟨l, h1, h2, h3⟩ := h
  have hl := Sx.len h1 h2 h3
  have key : ∀ l', Armed l l' x → ∀ y, y ∈ l' ↔ y ∈ put L x := fun l' ha y => by rw [ha y, mem_put y, h2 y]
  cases hh : has L x.k with
  | true =>
    obtain ⟨y, hy, e⟩ := has_yes.1 hh
    refine (arm_old h1 x y hx ((h2 y).2 hy) e).mono ?_
    rintro e w' ⟨rfl, l', ht, ha⟩
    exact ⟨rfl, tx_of ht (key l' ha) (kn_put h3)⟩
  | false =>
    refine (arm_new h1 x hx (fun y hy => has_no.1 hh y ((h2 y).1 hy)) ?_).mono ?_
    · rcases hc with hc | hc
      · rw [hh] at hc; cases hc
      · rw [hl]; exact hc
    · rintro e w' ⟨rfl, l', ht, ha⟩
      exact ⟨rfl, tx_of ht (key l' ha) (kn_put h3)⟩
theorem sx_full (h : Sx w s F L) (k : Tk) (t : Int) (hk : k.ok) (hn : has L k = false) (hf : L.length = 256) :
    Calls Try.prog 14 #[.pointer (some ⟨s, 0, none⟩), .agg #[.int .u8 k.kd, .int .u64 k.id], .int .u64 t] w fun e w' => e = .returned (.int .i64 3) ∧ Tx w w' s F L := by
  have h0 := h
  obtain ⟨l, h1, h2, h3⟩ := h
  refine (arm_full h1 k t hk (fun y hy => has_no.1 hn y ((h2 y).1 hy)) (by rw [Sx.len h1 h2 h3]; exact hf)).mono ?_
  rintro e w' ⟨rfl, hb⟩
  exact ⟨rfl, Tx.same h0 hb⟩
theorem del_none {k : Tk} (hn : has L k = false) : del L k = L := by
  unfold del
  rw [List.filter_eq_self]
  intro y hy
  simp [sameK_no]
  exact has_no.1 hn y hy
theorem sx_cancel (h : Sx w s F L) (k : Tk) (hk : k.ok) (b : Bool) (hb : has L k = b) :
    Calls Try.prog 15 #[.pointer (some ⟨s, 0, none⟩), .agg #[.int .u8 k.kd, .int .u64 k.id]] w fun e w' => e = .returned (.bool b) ∧ Tx w w' s F (del L k) := by
  have h0 := h
  obtain ⟨l, h1, h2, h3⟩ := h
  subst hb
  cases hh : has L k with
  | false =>
    refine (cancel_no h1 k hk (fun y hy => has_no.1 hh y ((h2 y).1 hy))).mono ?_
    rintro e w' ⟨rfl, hb⟩
    rw [del_none hh]
    exact ⟨rfl, Tx.same h0 hb⟩
  | true =>
    obtain ⟨y, hy, rfl⟩ := has_yes.1 hh
    refine (cancel_yes h1 y hk ((h2 y).2 hy)).mono ?_
    rintro e w' ⟨rfl, l', ht, ha⟩
    exact ⟨rfl, tx_of ht (fun z => by rw [ha z, mem_del, h2 z]) (kn_del h3)⟩
/-- a key's time, if it has one -/
def tm (L : List Tm) (k : Tk) : Int := ((L.find? (fun y => sameK y.k k)).map (·.t)).getD 0
theorem tm_mem {k : Tk} (hh : has L k = true) : (⟨k, tm L k⟩ : Tm) ∈ L := by
  unfold tm
  obtain ⟨y, hy, e⟩ := has_yes.1 hh
  cases hf : L.find? (fun y => sameK y.k k) with
  | none =>
    have := List.find?_eq_none.1 hf y hy
    exact absurd (sameK_iff.2 e) this
  | some z =>
    have h1 := List.mem_of_find?_eq_some hf
    have h2 : z.k = k := sameK_iff.1 (by have := List.find?_some hf; exact this)
    subst h2
    exact h1
theorem tm_none {k : Tk} (hh : has L k = false) : tm L k = 0 := by
  unfold tm
  rw [List.find?_eq_none.2 (fun y hy e => has_no.1 hh y hy (sameK_iff.1 e))]
  rfl
theorem sx_at (h : Sx w s F L) (k : Tk) (hk : k.ok) (t : Int) (b : Bool) (ht : tm L k = t) (hb : has L k = b) :
    Calls Try.prog 13 #[.pointer (some ⟨s, 0, none⟩), .agg #[.int .u8 k.kd, .int .u64 k.id]] w fun e w' => e = .returned (.tuple #[.int .u64 t, .bool b]) ∧ Below w.heap.size w w' := by
  obtain ⟨l, h1, h2, h3⟩ := h
  subst hb ht
  cases hh : has L k with
  | true => exact tat_yes h1 k hk _ ((h2 _).2 (tm_mem hh))
  | false =>
    rw [tm_none hh]
    exact tat_no h1 k hk (fun y hy => has_no.1 hh y ((h2 y).1 hy))
/-- what comes next: x, if any -/
def Nx (L : List Tm) (x : Tm) (b : Bool) : Prop := (b = false ∧ L = [] ∧ x = zero) ∨ (b = true ∧ Least L x)
theorem sx_next (h : Sx w s F L) (x : Tm) (b : Bool) (hx : Nx L x b) : Calls Try.prog 11 #[.pointer (some ⟨s, 0, none⟩)] w fun e w' => e = .returned (.tuple #[.agg #[.int .u8 x.k.kd, .int .u64 x.k.id], .int .u64 x.t, .bool b]) ∧ Below w.heap.size w w' := by
  obtain ⟨l, h1, h2, h3⟩ := h
  rcases hx with ⟨rfl, rfl, rfl⟩ | ⟨rfl, hx⟩
  · have : l = [] := List.eq_nil_iff_forall_not_mem.2 (fun y hy => by simpa using (h2 y).1 hy)
    subst this
    exact next_none h1
  · exact next_some h1 x (least_same h2 hx)
/-- what is due: x, if any; and what is left -/
def Du (L : List Tm) (now : Int) (x : Tm) (b : Bool) (L' : List Tm) : Prop := (b = false ∧ x = zero ∧ L' = L ∧ (L = [] ∨ ∃ y, Least L y ∧ now < y.t)) ∨ (b = true ∧ Least L x ∧ x.t ≤ now ∧ L' = del L x.k)
theorem sx_due (h : Sx w s F L) (now : Int) (x : Tm) (b : Bool) (L' : List Tm) (hx : Du L now x b L') : Calls Try.prog 12 #[.pointer (some ⟨s, 0, none⟩), .int .u64 now] w fun e w' => e = .returned (.tuple #[.agg #[.int .u8 x.k.kd, .int .u64 x.k.id], .int .u64 x.t, .bool b]) ∧ Tx w w' s F L' := by
  have h0 := h
  obtain ⟨l, h1, h2, h3⟩ := h
  rcases hx with ⟨rfl, rfl, rfl, hx⟩ | ⟨rfl, hx, ht, rfl⟩
  · refine (due_late h1 now ?_).mono ?_
    · rcases hx with rfl | ⟨y, hy, ht⟩
      · exact .inl (List.eq_nil_iff_forall_not_mem.2 (fun y hy => by simpa using (h2 y).1 hy))
      · exact .inr ⟨y, least_same h2 hy, ht⟩
    · rintro e w' ⟨rfl, hb⟩
      exact ⟨rfl, Tx.same h0 hb⟩
  · refine (due_take h1 now x (least_same h2 hx) ht).mono ?_
    rintro e w' ⟨rfl, l', hturn, ha⟩
    exact ⟨rfl, tx_of hturn (fun z => by rw [ha z, mem_del, h2 z]) (kn_del h3)⟩
end

/-! ### a set, and rows beside it, in memory that is the law's own -/
structure Sd (w0 w : World) (s : Nat) (L : List Tm) (R : List (Nat × TypeId × Array Value)) : Prop where
  ex : ∃ F, Sx w s F L ∧ (∀ z ∈ F, w0.heap.size ≤ z) ∧ ∀ p ∈ R, Row w p.1 p.2.1 p.2.2 ∧ p.1 ∉ F
  bel : Below w0.heap.size w0 w

theorem Sd.tx {w0 w w' : World} {s : Nat} {F : List Nat} {L' : List Tm} {R : List (Nat × TypeId × Array Value)} (hF : ∀ z ∈ F, w0.heap.size ≤ z) (hR : ∀ p ∈ R, Row w p.1 p.2.1 p.2.2 ∧ p.1 ∉ F) (hb : Below w0.heap.size w0 w) (h : Tx w w' s F L') : Sd w0 w' s L' R := by
  obtain ⟨F', h1, h2, h3⟩ := h
  refine ⟨⟨F', h1, fun z hz => ?_, fun p hp => ?_⟩, Kept.below hb h2 hF hb.size⟩
  · rcases h3 z hz with h | h
    · exact hF z h
    · exact Nat.le_trans hb.size h
  · obtain ⟨r, n⟩ := hR p hp
    refine ⟨row_kept r h2 n, fun e => ?_⟩
    rcases h3 _ e with h | h
    · exact n h
    · have := r.lt
      omega
theorem Sd.keep {w0 w w' : World} {s : Nat} {L : List Tm} {R : List (Nat × TypeId × Array Value)} (h : Sd w0 w s L R) (k : Below w.heap.size w w') : Sd w0 w' s L R := by
  obtain ⟨⟨F, h1, h2, h3⟩, hb⟩ := h
  exact ⟨⟨F, h1.keep k, h2, fun p hp => ⟨(h3 p hp).1.keep k, (h3 p hp).2⟩⟩, hb.trans (k.mono hb.size)⟩
theorem Sd.drew {w0 w : World} {s : Nat} {L : List Tm} {R : List (Nat × TypeId × Array Value)} (h : Sd w0 w s L R) : Sd w0 w.drew s L R := h.keep (below_still (Below.refl _ w) ⟨1, rfl⟩)
theorem Sd.alloc {w0 w : World} {s : Nat} {L : List Tm} {R : List (Nat × TypeId × Array Value)} (h : Sd w0 w s L R) (t : TypeId) (cs : Array Value) : Sd w0 (w.alloc (.cells cs t)) s L ((w.heap.size, t, cs) :: R) := by
  have h' := h.keep (below_new w (.cells cs t))
  obtain ⟨⟨F, h1, h2, h3⟩, hb⟩ := h
  refine ⟨⟨F, h1.keep (below_new _ _), h2, fun p hp => ?_⟩, h'.bel⟩
  rcases List.mem_cons.1 hp with rfl | hp
  · exact ⟨row_new rfl, fun e => by have := h1.lt _ e; omega⟩
  · exact ⟨(h3 p hp).1.keep (below_new _ _), (h3 p hp).2⟩
theorem Sd.row {w0 w : World} {s : Nat} {L : List Tm} {R : List (Nat × TypeId × Array Value)} (h : Sd w0 w s L R) {g : Nat} {t : TypeId} {cs : Array Value} (hp : (g, t, cs) ∈ R) : Row w g t cs := by
  obtain ⟨⟨F, h1, h2, h3⟩, hb⟩ := h
  exact (h3 _ hp).1
theorem Sd.kn {w0 w : World} {s : Nat} {L : List Tm} {R : List (Nat × TypeId × Array Value)} (h : Sd w0 w s L R) : Kn L := by
  obtain ⟨⟨F, h1, h2, h3⟩, hb⟩ := h
  exact h1.kn
theorem Sd.lim {w0 w : World} {s : Nat} {L : List Tm} {R : List (Nat × TypeId × Array Value)} (h : Sd w0 w s L R) : L.length ≤ 256 := by
  obtain ⟨⟨F, h1, h2, h3⟩, hb⟩ := h
  exact h1.lim
theorem Sd.ok {w0 w : World} {s : Nat} {L : List Tm} {R : List (Nat × TypeId × Array Value)} (h : Sd w0 w s L R) : ∀ x ∈ L, x.ok := by
  obtain ⟨⟨F, h1, h2, h3⟩, hb⟩ := h
  exact h1.ok

section
variable {w0 w : World} {s : Nat} {L : List Tm} {R : List (Nat × TypeId × Array Value)}
theorem sd_new (w : World) : Calls Try.prog 8 #[] w fun e w' => e = .returned (.pointer (some ⟨w.heap.size + 2, 0, none⟩)) ∧ Sd w w' (w.heap.size + 2) [] [] := by
  refine (new_any w).mono ?_
  rintro e w' ⟨rfl, ⟨F, h1, h2⟩, h3, _⟩
  exact ⟨rfl, ⟨F, ⟨[], h1, fun _ => Iff.rfl, kn_nil⟩, h2, by simp⟩, h3⟩
theorem sd_len (h : Sd w0 w s L R) (n : Nat) (hn : L.length = n) : Calls Try.prog 16 #[.pointer (some ⟨s, 0, none⟩)] w fun e w' => e = .returned (.int .i64 n) ∧ w = w' := by
  obtain ⟨⟨F, h1, h2, h3⟩, hb⟩ := h
  exact sx_len h1 n hn
theorem sd_arm (h : Sd w0 w s L R) (x : Tm) (hx : x.ok) (hc : has L x.k = true ∨ L.length < 256) (L' : List Tm) (hL : put L x = L') :
    Calls Try.prog 14 #[.pointer (some ⟨s, 0, none⟩), .agg #[.int .u8 x.k.kd, .int .u64 x.k.id], .int .u64 x.t] w fun e w' => e = .returned (.int .i64 0) ∧ Sd w0 w' s L' R := by
  obtain ⟨⟨F, h1, h2, h3⟩, hb⟩ := h
  subst hL
  refine (sx_arm h1 x hx hc).mono ?_
  rintro e w' ⟨rfl, ht⟩
  exact ⟨rfl, Sd.tx h2 h3 hb ht⟩
theorem sd_full (h : Sd w0 w s L R) (k : Tk) (t : Int) (hk : k.ok) (hn : has L k = false) (hf : L.length = 256) :
    Calls Try.prog 14 #[.pointer (some ⟨s, 0, none⟩), .agg #[.int .u8 k.kd, .int .u64 k.id], .int .u64 t] w fun e w' => e = .returned (.int .i64 3) ∧ Sd w0 w' s L R := by
  obtain ⟨⟨F, h1, h2, h3⟩, hb⟩ := h
  refine (sx_full h1 k t hk hn hf).mono ?_
  rintro e w' ⟨rfl, ht⟩
  exact ⟨rfl, Sd.tx h2 h3 hb ht⟩
theorem sd_cancel (h : Sd w0 w s L R) (k : Tk) (hk : k.ok) (b : Bool) (hb : has L k = b) (L' : List Tm) (hL : del L k = L') :
    Calls Try.prog 15 #[.pointer (some ⟨s, 0, none⟩), .agg #[.int .u8 k.kd, .int .u64 k.id]] w fun e w' => e = .returned (.bool b) ∧ Sd w0 w' s L' R := by
  obtain ⟨⟨F, h1, h2, h3⟩, hbel⟩ := h
  subst hL
  refine (sx_cancel h1 k hk b hb).mono ?_
  rintro e w' ⟨rfl, ht⟩
  exact ⟨rfl, Sd.tx h2 h3 hbel ht⟩
theorem sd_at (h : Sd w0 w s L R) (k : Tk) (hk : k.ok) (t : Int) (b : Bool) (ht : tm L k = t) (hb : has L k = b) :
    Calls Try.prog 13 #[.pointer (some ⟨s, 0, none⟩), .agg #[.int .u8 k.kd, .int .u64 k.id]] w fun e w' => e = .returned (.tuple #[.int .u64 t, .bool b]) ∧ Sd w0 w' s L R := by
  have h0 := h
  obtain ⟨⟨F, h1, h2, h3⟩, hbel⟩ := h
  refine (sx_at h1 k hk t b ht hb).mono ?_
  rintro e w' ⟨rfl, hb⟩
  exact ⟨rfl, h0.keep hb⟩
theorem sd_next (h : Sd w0 w s L R) (x : Tm) (b : Bool) (hx : Nx L x b) : Calls Try.prog 11 #[.pointer (some ⟨s, 0, none⟩)] w fun e w' => e = .returned (.tuple #[.agg #[.int .u8 x.k.kd, .int .u64 x.k.id], .int .u64 x.t, .bool b]) ∧ Sd w0 w' s L R := by
  have h0 := h
  obtain ⟨⟨F, h1, h2, h3⟩, hbel⟩ := h
  refine (sx_next h1 x b hx).mono ?_
  rintro e w' ⟨rfl, hb⟩
  exact ⟨rfl, h0.keep hb⟩
theorem sd_due (h : Sd w0 w s L R) (now : Int) (x : Tm) (b : Bool) (L' : List Tm) (hx : Du L now x b L') : Calls Try.prog 12 #[.pointer (some ⟨s, 0, none⟩), .int .u64 now] w fun e w' => e = .returned (.tuple #[.agg #[.int .u8 x.k.kd, .int .u64 x.k.id], .int .u64 x.t, .bool b]) ∧ Sd w0 w' s L' R := by
  obtain ⟨⟨F, h1, h2, h3⟩, hbel⟩ := h
  refine (sx_due h1 now x b L' hx).mono ?_
  rintro e w' ⟨rfl, ht⟩
  exact ⟨rfl, Sd.tx h2 h3 hbel ht⟩
end

end Go.Proofs.Ytkjgmimfnmilfaa.Tm5
