/-
  What is armed last of each key; how many come early; what taking the least one leaves.
  Conditions: none.
-/
import Derived.Test.YtkjgmimfnmilfaaTmrZ
import Derived.Test.YtkjgmimfnmilfaaTmrE
namespace Go.Proofs.Ytkjgmimfnmilfaa.Tm5
open Go.RowKit

/-- of the first j acts, x is the last one of its key, among those below m -/
def La (l : List Deed) (j m : Nat) (x : Tm) : Prop := ∃ c, c < j ∧ (dx l c).x = x ∧ ∀ d, c < d → d < m → (dx l d).x.k ≠ x.k

theorem la_arm {l : List Deed} {j : Nat} {L : List Tm} (h : ∀ x, x ∈ L ↔ La l j j x) : ∀ x, x ∈ put L (dx l j).x ↔ La l (j + 1) (j + 1) x := by
  intro x
  rw [mem_put x, h x]
  constructor
  · rintro (rfl | ⟨⟨c, hc, rfl, hd⟩, hk⟩)
    · exact ⟨j, by omega, rfl, fun d h1 h2 => by omega⟩
    · refine ⟨c, by omega, rfl, fun d h1 h2 => ?_⟩
      by_cases e : d = j
      · subst e
        exact fun q => hk q.symm
      · exact hd d h1 (by omega)
  · rintro ⟨c, hc, rfl, hd⟩
    by_cases e : c = j
    · subst e
      exact .inl rfl
    · exact .inr ⟨⟨c, by omega, rfl, fun d h1 h2 => hd d h1 (by omega)⟩, fun q => hd j (by omega) (by omega) q.symm⟩

/-- the act at i is the last one of its key -/
def Lz (l : List Deed) (i m : Nat) : Prop := ∀ d, i < d → d < m → (dx l d).x.k ≠ (dx l i).x.k
theorem la_yes {l : List Deed} {i m : Nat} {W : List Deed} (h : ∀ x, x ∈ W.map (·.x) ↔ La l i m x) (hz : Lz l i m) : ∀ x, x ∈ (W ++ [dx l i]).map (·.x) ↔ La l (i + 1) m x := by
  intro x
  simp only [List.map_append, List.map_cons, List.map_nil, List.mem_append, List.mem_singleton]
  rw [h x]
  constructor
  · rintro (⟨c, hc, e, hd⟩ | rfl)
    · exact ⟨c, by omega, e, hd⟩
    · exact ⟨i, by omega, rfl, hz⟩
  · rintro ⟨c, hc, e, hd⟩
    by_cases q : c = i
    · subst q
      exact .inr e.symm
    · exact .inl ⟨c, by omega, e, hd⟩
theorem la_no {l : List Deed} {i m : Nat} {X : List Tm} (h : ∀ x, x ∈ X ↔ La l i m x) (hz : ¬ Lz l i m) : ∀ x, x ∈ X ↔ La l (i + 1) m x := by
  intro x
  rw [h x]
  constructor
  · rintro ⟨c, hc, e, hd⟩
    exact ⟨c, by omega, e, hd⟩
  · rintro ⟨c, hc, e, hd⟩
    by_cases q : c = i
    · subst q
      subst e
      exact absurd hd hz
    · exact ⟨c, by omega, e, hd⟩
theorem la_kn {l : List Deed} {i m : Nat} {W : List Deed} (hi : i < m) (h : ∀ x, x ∈ W.map (·.x) ↔ La l i m x) (hk : Kn (W.map (·.x))) : Kn ((W ++ [dx l i]).map (·.x)) := by
  unfold Kn at *
  rw [List.map_append, List.pairwise_append]
  refine ⟨hk, by simp, fun a ha b hb => ?_⟩
  simp at hb
  subst hb
  obtain ⟨c, hc, rfl, hd⟩ := (h a).1 ha
  exact fun q => hd i (by omega) hi q.symm

/-! ### how many have come by now -/
def cnt (now : Int) (L : List Tm) : Nat := (L.filter (fun y => decide (y.t ≤ now))).length
theorem cnt_snoc (now : Int) (L : List Tm) (x : Tm) : cnt now (L ++ [x]) = cnt now L + (if x.t ≤ now then 1 else 0) := by
  unfold cnt
  rw [List.filter_append, List.length_append]
  congr 1
  by_cases h : x.t ≤ now
  · simp [h]
  · simp [h]
theorem cnt_le (now : Int) (L : List Tm) : cnt now L ≤ L.length := List.length_filter_le _ _
theorem cnt_early {now : Int} {L : List Tm} {x : Tm} (hx : Least L x) (h : 0 < cnt now L) : x.t ≤ now := by
  obtain ⟨y, hy⟩ := List.exists_mem_of_length_pos h
  obtain ⟨h1, h2⟩ := List.mem_filter.1 hy
  have := hx.2 y h1
  rw [le_iff] at this
  simp at h2
  omega
theorem cnt_late {now : Int} {L : List Tm} {x : Tm} (hx : Least L x) (h : cnt now L = 0) : now < x.t := by
  have := List.eq_nil_of_length_eq_zero h
  have := (List.filter_eq_nil_iff.1 this) x hx.1
  simp at this
  omega
theorem cnt_del {now : Int} {L : List Tm} {x : Tm} (hk : Kn L) (hx : x ∈ L) : cnt now L = cnt now (del L x.k) + (if x.t ≤ now then 1 else 0) := by
  have hp : L.Perm (del L x.k ++ [x]) := by
    refine perm_of hk ?_ (fun y => ?_)
    · unfold Kn
      rw [List.pairwise_append]
      refine ⟨kn_del hk, by simp, fun a ha b hb => ?_⟩
      simp at hb
      subst hb
      exact (mem_del.1 ha).2
    · rw [List.mem_append, mem_del]
      constructor
      · intro hy
        by_cases e : y.k = x.k
        · exact .inr (by simp; exact hk.one hy hx e)
        · exact .inl ⟨hy, e⟩
      · rintro (hy | hy)
        · exact hy.1
        · simp at hy; subst hy; exact hx
  rw [← cnt_snoc]
  exact (hp.filter _).length_eq
theorem least_del {L : List Tm} {x : Tm} (hx : Least L x) : ∀ y ∈ del L x.k, lt x y = true := by
  intro y hy
  obtain ⟨h1, h2⟩ := mem_del.1 hy
  exact lt_of_le_ne (hx.2 y h1) (fun e => h2 (by rw [e]))

theorem Sd.least {w0 w : World} {s : Nat} {L : List Tm} {R : List (Nat × TypeId × Array Value)} (h : Sd w0 w s L R) (hl : L ≠ []) : ∃ x, Least L x := by
  obtain ⟨⟨F, ⟨l, h1, h2, h3⟩, _⟩, hb⟩ := h
  obtain ⟨x, hx⟩ := least_ex h1 (fun e => hl (by
    subst e
    exact List.eq_nil_iff_forall_not_mem.2 (fun y hy => by simpa using (h2 y).2 hy)))
  exact ⟨x, least_same (fun y => (h2 y).symm) hx⟩
theorem Sd.same {w0 w : World} {s : Nat} {L L' : List Tm} {R : List (Nat × TypeId × Array Value)} (h : Sd w0 w s L R) (hk : Kn L') (hm : ∀ x, x ∈ L ↔ x ∈ L') : Sd w0 w s L' R := by
  obtain ⟨⟨F, ⟨l, h1, h2, h3⟩, h4⟩, hb⟩ := h
  exact ⟨⟨F, ⟨l, h1, fun y => (h2 y).trans (hm y), hk⟩, h4⟩, hb⟩
/-- a list of acts of the law's own beside a set -/
structure Sw (w0 w : World) (s : Nat) (L : List Tm) (R : List (Nat × TypeId × Array Value)) (v : Value) (W : List Deed) : Prop where
  ex : ∃ F, Sx w s F L ∧ (∀ z ∈ F, w0.heap.size ≤ z) ∧ (∀ p ∈ R, Row w p.1 p.2.1 p.2.2 ∧ p.1 ∉ F) ∧ (∀ g, v.ownBlock = some g → g ∉ F ∧ w0.heap.size ≤ g ∧ ∀ p ∈ R, p.1 ≠ g)
  bel : Below w0.heap.size w0 w
  ld : Ld w v W
theorem Sw.sd {w0 w : World} {s : Nat} {L : List Tm} {R : List (Nat × TypeId × Array Value)} {v : Value} {W : List Deed} (h : Sw w0 w s L R v W) : Sd w0 w s L R := by
  obtain ⟨⟨F, h1, h2, h3, h4⟩, hb, _⟩ := h
  exact ⟨⟨F, h1, h2, h3⟩, hb⟩
theorem sw_nil {w0 w : World} {s : Nat} {L : List Tm} (h : Sd w0 w s L []) : Sw w0 w s L [] (.slice none 0 0) [] := by
  obtain ⟨⟨F, h1, h2, h3⟩, hb⟩ := h
  exact ⟨⟨F, h1, h2, h3, by simp [Value.ownBlock]⟩, hb, ld_nil w⟩
theorem Sw.keep {w0 w w' : World} {s : Nat} {L : List Tm} {R : List (Nat × TypeId × Array Value)} {v : Value} {W : List Deed} (h : Sw w0 w s L R v W) (k : Below w.heap.size w w') : Sw w0 w' s L R v W := by
  obtain ⟨⟨F, h1, h2, h3, h4⟩, hb, hl⟩ := h
  exact ⟨⟨F, h1.keep k, h2, fun p hp => ⟨(h3 p hp).1.keep k, (h3 p hp).2⟩, h4⟩, hb.trans (k.mono hb.size), hl.keep k⟩
theorem Sw.drew {w0 w : World} {s : Nat} {L : List Tm} {R : List (Nat × TypeId × Array Value)} {v : Value} {W : List Deed} (h : Sw w0 w s L R v W) (n : Nat) : Sw w0 (w.drewN n) s L R v W := h.keep (below_still (Below.refl _ w) ⟨n, rfl⟩)
theorem Sw.same {w0 w : World} {s : Nat} {L L' : List Tm} {R : List (Nat × TypeId × Array Value)} {v : Value} {W : List Deed} (h : Sw w0 w s L R v W) (hk : Kn L') (hm : ∀ x, x ∈ L ↔ x ∈ L') : Sw w0 w s L' R v W := by
  obtain ⟨⟨F, ⟨l, h1, h2, h3⟩, h4⟩, hb, hl⟩ := h
  exact ⟨⟨F, ⟨l, h1, fun y => (h2 y).trans (hm y), hk⟩, h4⟩, hb, hl⟩
/-- .. one more -/
theorem Sw.more {w0 w : World} {s : Nat} {L : List Tm} {v : Value} {W : List Deed} (h : Sw w0 w s L [] v W) (d : Deed) (ty : TypeId) (a : Addr) (c : Nat) (hd : ∀ j u, (dv d)[j]? = some u → w.cell? (a.add j) = some u) (hn : W.length < 16777216) :
    ∃ v' w', (Builtin.append_ #[22, 22] ty #[v, .slice (some a) 1 c]).run Try.prog w = .ok v' w' ∧ Sw w0 w' s L [] v' (W ++ [d]) := by
  obtain ⟨⟨F, h1, h2, h3, h4⟩, hb, hl⟩ := h
  obtain ⟨v', w', hr, hl', hg, hloc⟩ := run_mored w ty v W [d] hl a c (fun j u hu => hd j u (by simpa [cd] using hu)) (by simp; omega)
  have k : Kept v.ownBlock.toList w w' := kept_gbo hg (fun z hz => by simp [hz])
  have hF : ∀ z ∈ F, z ∉ v.ownBlock.toList := fun z hz e => by
    simp at e
    exact (h4 z e).1 hz
  refine ⟨v', w', hr, ⟨⟨F, h1.kept k hF, h2, by simp, ?_⟩, Kept.below hb k (fun z hz => by simp at hz; exact (h4 z hz).2.1) hb.size, hl'⟩⟩
  intro g e
  rcases hloc with q | q
  · rw [e] at q
    exact ⟨(h4 g q.symm).1, (h4 g q.symm).2.1, by simp⟩
  · rw [e] at q
    injection q with q
    subst q
    exact ⟨fun z => by have := h1.lt _ z; omega, hb.size, by simp⟩
/-- any call on the set -/
theorem Sw.tx {w0 w : World} {s : Nat} {L : List Tm} {R : List (Nat × TypeId × Array Value)} {v : Value} {W : List Deed} (h : Sw w0 w s L R v W) : ∃ F, Sx w s F L ∧ ∀ {w' L'}, Tx w w' s F L' → Sw w0 w' s L' R v W := by
  obtain ⟨⟨F, h1, h2, h3, h4⟩, hb, hl⟩ := h
  refine ⟨F, h1, fun {w' L'} ht => ?_⟩
  have hs := Sd.tx (R := R) h2 h3 hb ht
  obtain ⟨F', g1, g2, g3⟩ := ht
  refine ⟨⟨F', g1, ?_, ?_, ?_⟩, hs.bel, hl.kept g2 (fun g hg => (h4 g hg).1)⟩
  · intro z hz
    rcases g3 z hz with q | q
    · exact h2 z q
    · exact Nat.le_trans hb.size q
  · intro p hp
    obtain ⟨r, n⟩ := h3 p hp
    refine ⟨row_kept r g2 n, fun e => ?_⟩
    rcases g3 _ e with q | q
    · exact n q
    · have := r.lt
      omega
  · intro g hg
    refine ⟨fun e => ?_, (h4 g hg).2.1, (h4 g hg).2.2⟩
    rcases g3 _ e with q | q
    · exact (h4 g hg).1 q
    · have := hl.lt g hg
      omega
/-- a row of its own beside them -/
theorem Sw.alloc {w0 w : World} {s : Nat} {L : List Tm} {R : List (Nat × TypeId × Array Value)} {v : Value} {W : List Deed} (h : Sw w0 w s L R v W) (t : TypeId) (cs : Array Value) : Sw w0 (w.alloc (.cells cs t)) s L ((w.heap.size, t, cs) :: R) v W := by
  have h' := h.keep (below_new w (.cells cs t))
  have hsd := h.sd.alloc t cs
  obtain ⟨⟨F, h1, h2, h3, h4⟩, hb, hl⟩ := h
  refine ⟨⟨F, h1.keep (below_new _ _), h2, fun p hp => ?_, fun g hg => ⟨(h4 g hg).1, (h4 g hg).2.1, fun p hp => ?_⟩⟩, h'.bel, h'.ld⟩
  · rcases List.mem_cons.1 hp with rfl | hp
    · exact ⟨row_new rfl, fun e => by have := h1.lt _ e; omega⟩
    · exact ⟨(h3 p hp).1.keep (below_new _ _), (h3 p hp).2⟩
  · rcases List.mem_cons.1 hp with rfl | hp
    · have := hl.lt g hg
      simp only []
      omega
    · exact (h4 g hg).2.2 p hp
/-- .. and let go -/
theorem Sw.less {w0 w : World} {s : Nat} {L : List Tm} {R R' : List (Nat × TypeId × Array Value)} {v : Value} {W : List Deed} (h : Sw w0 w s L R v W) (hR : ∀ p ∈ R', p ∈ R) : Sw w0 w s L R' v W := by
  obtain ⟨⟨F, h1, h2, h3, h4⟩, hb, hl⟩ := h
  exact ⟨⟨F, h1, h2, fun p hp => h3 p (hR p hp), fun g hg => ⟨(h4 g hg).1, (h4 g hg).2.1, fun p hp => (h4 g hg).2.2 p (hR p hp)⟩⟩, hb, hl⟩
/-- .. and written: that row alone is left -/
theorem Sw.write {w0 w w' : World} {s : Nat} {L : List Tm} {R : List (Nat × TypeId × Array Value)} {v : Value} {W : List Deed} (h : Sw w0 w s L R v W) {g : Nat} {t : TypeId} {cs cs' : Array Value} (hp : (g, t, cs) ∈ R) (hg : w0.heap.size ≤ g) (k : Kept [g] w w') (hr : Row w' g t cs') : Sw w0 w' s L [(g, t, cs')] v W := by
  obtain ⟨⟨F, h1, h2, h3, h4⟩, hb, hl⟩ := h
  have hgF := (h3 _ hp).2
  refine ⟨⟨F, h1.kept k (fun z hz e => by simp at e; subst e; exact hgF hz), h2, fun p hp => ?_, fun g' hg' => ⟨(h4 g' hg').1, (h4 g' hg').2.1, fun p hp' => ?_⟩⟩, Kept.below hb k (fun z hz => by simp at hz; subst hz; exact hg) hb.size, hl.kept k (fun g' hg' => ?_)⟩
  · simp at hp
    subst hp
    exact ⟨hr, hgF⟩
  · simp at hp'
    subst hp'
    exact (h4 g' hg').2.2 (g, t, cs) hp
  · simp
    rintro rfl
    exact (h4 _ hg').2.2 _ hp rfl
theorem Sw.row {w0 w : World} {s : Nat} {L : List Tm} {R : List (Nat × TypeId × Array Value)} {v : Value} {W : List Deed} (h : Sw w0 w s L R v W) {g : Nat} {t : TypeId} {cs : Array Value} (hp : (g, t, cs) ∈ R) : Row w g t cs := h.sd.row hp

section
variable {w0 w : World} {s : Nat} {L : List Tm} {R : List (Nat × TypeId × Array Value)} {v : Value} {W : List Deed}
theorem sw_len (h : Sw w0 w s L R v W) (n : Nat) (hn : L.length = n) : Calls Try.prog 16 #[.pointer (some ⟨s, 0, none⟩)] w fun e w' => e = .returned (.int .i64 n) ∧ w = w' := sd_len h.sd n hn
theorem sw_next (h : Sw w0 w s L R v W) (x : Tm) (b : Bool) (hx : Nx L x b) : Calls Try.prog 11 #[.pointer (some ⟨s, 0, none⟩)] w fun e w' => e = .returned (.tuple #[.agg #[.int .u8 x.k.kd, .int .u64 x.k.id], .int .u64 x.t, .bool b]) ∧ Sw w0 w' s L R v W := by
  obtain ⟨F, h1, _⟩ := h.tx
  refine (sx_next h1 x b hx).mono ?_
  rintro e w' ⟨rfl, hb⟩
  exact ⟨rfl, h.keep hb⟩
theorem sw_due (h : Sw w0 w s L R v W) (now : Int) (x : Tm) (b : Bool) (L' : List Tm) (hx : Du L now x b L') : Calls Try.prog 12 #[.pointer (some ⟨s, 0, none⟩), .int .u64 now] w fun e w' => e = .returned (.tuple #[.agg #[.int .u8 x.k.kd, .int .u64 x.k.id], .int .u64 x.t, .bool b]) ∧ Sw w0 w' s L' R v W := by
  obtain ⟨F, h1, h2⟩ := h.tx
  refine (sx_due h1 now x b L' hx).mono ?_
  rintro e w' ⟨rfl, ht⟩
  exact ⟨rfl, h2 ht⟩
end

end Go.Proofs.Ytkjgmimfnmilfaa.Tm5
