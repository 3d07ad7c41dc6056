/-
  A set of timers and the reference's side by side: what the law's alike and one answer.
  Conditions: at most 256 timers.
-/
import Derived.Test.YtkjgmimfnmilfaaTmrR
import Derived.Test.YtkjgmimfnmilfaaTmrG
namespace Go.Proofs.Ytkjgmimfnmilfaa.Tm5
open Go.RowKit Go.Proofs.Ytkjgmimfnmilfaa.Ops

/-- both sets, apart, and rows beside them, in memory that is the law's own -/
structure Pq (w0 w : World) (s r : Nat) (L1 L2 : List Tm) (R : List (Nat × TypeId × Array Value)) : Prop where
  ex : ∃ F G, Sx w s F L1 ∧ Rs w r G L2 ∧ (∀ z ∈ F, w0.heap.size ≤ z ∧ z ∉ G) ∧ (∀ z ∈ G, w0.heap.size ≤ z) ∧ ∀ p ∈ R, Row w p.1 p.2.1 p.2.2 ∧ p.1 ∉ F ∧ p.1 ∉ G
  bel : Below w0.heap.size w0 w

section
variable {w0 w : World} {s r : Nat} {L1 L2 : List Tm} {R : List (Nat × TypeId × Array Value)}
theorem Pq.keep {w' : World} (h : Pq w0 w s r L1 L2 R) (k : Below w.heap.size w w') : Pq w0 w' s r L1 L2 R := by
  obtain ⟨⟨F, G, h1, h2, h3, h4, h5⟩, hb⟩ := h
  exact ⟨⟨F, G, h1.keep k, h2.keep k, h3, h4, fun p hp => ⟨(h5 p hp).1.keep k, (h5 p hp).2⟩⟩, hb.trans (k.mono hb.size)⟩
theorem Pq.drew (h : Pq w0 w s r L1 L2 R) (n : Nat) : Pq w0 (w.drewN n) s r L1 L2 R := h.keep (below_still (Below.refl _ w) ⟨n, rfl⟩)
theorem Pq.row (h : Pq w0 w s r L1 L2 R) {g : Nat} {t : TypeId} {cs : Array Value} (hp : (g, t, cs) ∈ R) : Row w g t cs := by
  obtain ⟨⟨F, G, h1, h2, h3, h4, h5⟩, hb⟩ := h
  exact (h5 _ hp).1
theorem Pq.less {R' : List (Nat × TypeId × Array Value)} (h : Pq w0 w s r L1 L2 R) (hR : ∀ p ∈ R', p ∈ R) : Pq w0 w s r L1 L2 R' := by
  obtain ⟨⟨F, G, h1, h2, h3, h4, h5⟩, hb⟩ := h
  exact ⟨⟨F, G, h1, h2, h3, h4, fun p hp => h5 p (hR p hp)⟩, hb⟩
theorem Pq.alloc (h : Pq w0 w s r L1 L2 R) (t : TypeId) (cs : Array Value) : Pq w0 (w.alloc (.cells cs t)) s r L1 L2 ((w.heap.size, t, cs) :: R) := by
  have h' := h.keep (below_new w (.cells cs t))
  obtain ⟨⟨F, G, h1, h2, h3, h4, h5⟩, hb⟩ := h
  refine ⟨⟨F, G, h1.keep (below_new _ _), h2.keep (below_new _ _), h3, h4, fun p hp => ?_⟩, h'.bel⟩
  rcases List.mem_cons.1 hp with rfl | hp
  · exact ⟨row_new rfl, fun e => by have := h1.lt _ e; omega, fun e => by have := h2.lt _ e; omega⟩
  · exact ⟨(h5 p hp).1.keep (below_new _ _), (h5 p hp).2⟩
/-- a call on the set -/
theorem Pq.set (h : Pq w0 w s r L1 L2 R) : ∃ F, Sx w s F L1 ∧ ∀ {w' L'}, Tx w w' s F L' → Pq w0 w' s r L' L2 R := by
  obtain ⟨⟨F, G, h1, h2, h3, h4, h5⟩, hb⟩ := h
  refine ⟨F, h1, fun {w' L'} ht => ?_⟩
  obtain ⟨F', g1, g2, g3⟩ := ht
  refine ⟨⟨F', G, g1, h2.kept g2 (fun z hz e => (h3 z e).2 hz), fun z hz => ?_, h4, fun p hp => ?_⟩, Kept.below hb g2 (fun z hz => (h3 z hz).1) hb.size⟩
  · rcases g3 z hz with q | q
    · exact h3 z q
    · exact ⟨Nat.le_trans hb.size q, fun e => by have := h2.lt _ e; omega⟩
  · obtain ⟨a, b, c⟩ := h5 p hp
    refine ⟨row_kept a g2 b, fun e => ?_, c⟩
    rcases g3 _ e with q | q
    · exact b q
    · have := a.lt
      omega
/-- a call on the reference's -/
theorem Pq.ref (h : Pq w0 w s r L1 L2 R) : ∃ G, Rs w r G L2 ∧ ∀ {w' L'}, Ru w w' r G L' → Pq w0 w' s r L1 L' R := by
  obtain ⟨⟨F, G, h1, h2, h3, h4, h5⟩, hb⟩ := h
  refine ⟨G, h2, fun {w' L'} ht => ?_⟩
  obtain ⟨G', g1, g2, g3⟩ := ht
  refine ⟨⟨F, G', h1.kept g2 (fun z hz => (h3 z hz).2), g1, fun z hz => ⟨(h3 z hz).1, fun e => ?_⟩, fun z hz => ?_, fun p hp => ?_⟩, Kept.below hb g2 h4 hb.size⟩
  · rcases g3 z e with q | q
    · exact (h3 z hz).2 q
    · have := h1.lt _ hz
      omega
  · rcases g3 z hz with q | q
    · exact h4 z q
    · exact Nat.le_trans hb.size q
  · obtain ⟨a, b, c⟩ := h5 p hp
    refine ⟨row_kept a g2 c, b, fun e => ?_⟩
    rcases g3 _ e with q | q
    · exact c q
    · have := a.lt
      omega
theorem Pq.kn (h : Pq w0 w s r L1 L2 R) : Kn L1 := by
  obtain ⟨⟨F, G, h1, h2, h3, h4, h5⟩, hb⟩ := h
  exact h1.kn
theorem Pq.lim (h : Pq w0 w s r L1 L2 R) : L1.length ≤ 256 := by
  obtain ⟨⟨F, G, h1, h2, h3, h4, h5⟩, hb⟩ := h
  exact h1.lim
theorem Pq.ok (h : Pq w0 w s r L1 L2 R) : ∀ x ∈ L1, x.ok := by
  obtain ⟨⟨F, G, h1, h2, h3, h4, h5⟩, hb⟩ := h
  exact h1.ok
theorem Pq.least (h : Pq w0 w s r L1 L2 R) (hl : L1 ≠ []) : ∃ x, Least L1 x := by
  obtain ⟨⟨F, G, h1, h2, h3, h4, h5⟩, hb⟩ := h
  exact Sd.least (R := []) ⟨⟨F, h1, fun z hz => (h3 z hz).1, by simp⟩, hb⟩ hl
theorem Pq.next (h : Pq w0 w s r L1 L2 R) : ∃ x b, Nx L1 x b ∧ x.ok := by
  by_cases hl : L1 = []
  · exact ⟨zero, false, .inl ⟨rfl, hl, rfl⟩, ⟨⟨by decide, by decide, by decide, by decide⟩, by decide, by decide⟩⟩
  · obtain ⟨x, hx⟩ := h.least hl
    exact ⟨x, true, .inr ⟨rfl, hx⟩, h.ok x hx.1⟩
theorem Pq.due (h : Pq w0 w s r L1 L2 R) (now : Int) : ∃ x b L', Du L1 now x b L' ∧ x.ok := by
  have zok : zero.ok := ⟨⟨by decide, by decide, by decide, by decide⟩, by decide, by decide⟩
  by_cases hl : L1 = []
  · exact ⟨zero, false, L1, .inl ⟨rfl, rfl, rfl, .inl hl⟩, zok⟩
  · obtain ⟨x, hx⟩ := h.least hl
    by_cases ht : x.t ≤ now
    · exact ⟨x, true, _, .inr ⟨rfl, hx, ht, rfl⟩, h.ok x hx.1⟩
    · exact ⟨zero, false, L1, .inl ⟨rfl, rfl, rfl, .inr ⟨x, hx, by omega⟩⟩, zok⟩
end

section
variable {w0 w : World} {s r : Nat} {L1 L2 : List Tm} {R : List (Nat × TypeId × Array Value)}
theorem pq_next (h : Pq w0 w s r L1 L2 R) (x : Tm) (b : Bool) (hx : Nx L1 x b) : Calls Try.prog 11 #[.pointer (some ⟨s, 0, none⟩)] w fun e w' => e = .returned (.tuple #[.agg #[.int .u8 x.k.kd, .int .u64 x.k.id], .int .u64 x.t, .bool b]) ∧ Pq w0 w' s r L1 L2 R := by
  obtain ⟨F, h1, _⟩ := h.set
  refine (sx_next h1 x b hx).mono ?_
  rintro e w' ⟨rfl, hb⟩
  exact ⟨rfl, h.keep hb⟩
theorem pq_rnext (h : Pq w0 w s r L1 L2 R) (x : Tm) (b : Bool) (hx : Nx L2 x b) : Calls Try.prog 22 #[.pointer (some ⟨r, 0, none⟩)] w fun e w' => e = .returned (.tuple #[.agg #[.int .u8 x.k.kd, .int .u64 x.k.id], .int .u64 x.t, .bool b]) ∧ Pq w0 w' s r L1 L2 R := by
  obtain ⟨F, h1, _⟩ := h.ref
  refine (rs_next h1 x b hx).mono ?_
  rintro e w' ⟨rfl, hb⟩
  exact ⟨rfl, h.keep hb⟩
theorem pq_at (h : Pq w0 w s r L1 L2 R) (k : Tk) (hk : k.ok) (t : Int) (b : Bool) (ht : tm L1 k = t) (hb : has L1 k = b) :
    Calls Try.prog 13 #[.pointer (some ⟨s, 0, none⟩), .agg #[.int .u8 k.kd, .int .u64 k.id]] w fun e w' => e = .returned (.tuple #[.int .u64 t, .bool b]) ∧ Pq w0 w' s r L1 L2 R := by
  obtain ⟨F, h1, _⟩ := h.set
  refine (sx_at h1 k hk t b ht hb).mono ?_
  rintro e w' ⟨rfl, hb⟩
  exact ⟨rfl, h.keep hb⟩
theorem pq_rat (h : Pq w0 w s r L1 L2 R) (k : Tk) (hk : k.ok) (t : Int) (b : Bool) (ht : tm L2 k = t) (hb : has L2 k = b) :
    Calls Try.prog 23 #[.pointer (some ⟨r, 0, none⟩), .agg #[.int .u8 k.kd, .int .u64 k.id]] w fun e w' => e = .returned (.tuple #[.int .u64 t, .bool b]) ∧ Pq w0 w' s r L1 L2 R := by
  obtain ⟨F, h1, _⟩ := h.ref
  refine (rs_at h1 k hk t b ht hb).mono ?_
  rintro e w' ⟨rfl, hb⟩
  exact ⟨rfl, h.keep hb⟩
theorem pq_len (h : Pq w0 w s r L1 L2 R) (n : Nat) (hn : L1.length = n) : Calls Try.prog 16 #[.pointer (some ⟨s, 0, none⟩)] w fun e w' => e = .returned (.int .i64 n) ∧ w = w' := by
  obtain ⟨F, h1, _⟩ := h.set
  exact sx_len h1 n hn
theorem pq_rlen (h : Pq w0 w s r L1 L2 R) : ∃ A c, w.cell? ⟨r, 0, none⟩ = some (.slice A L2.length c) := by
  obtain ⟨G, ⟨A, n, c, rfl, h1⟩, _⟩ := h.ref
  refine ⟨A, c, ?_⟩
  rw [h1.len]
  exact h1.row.cell 0
/-- what Arm answers, and what is armed then -/
def Ar (L : List Tm) (x : Tm) (e : Int) (L' : List Tm) : Prop := (e = 0 ∧ L' = put L x ∧ (has L x.k = true ∨ L.length < 256)) ∨ (e = 3 ∧ L' = L ∧ has L x.k = false ∧ L.length = 256)
theorem ar_ex (L : List Tm) (x : Tm) (h : L.length ≤ 256) : ∃ e L', Ar L x e L' ∧ (e = 0 ∨ e = 3) := by
  cases hh : has L x.k with
  | true => exact ⟨0, _, .inl ⟨rfl, rfl, .inl hh⟩, .inl rfl⟩
  | false =>
    by_cases hl : L.length < 256
    · exact ⟨0, _, .inl ⟨rfl, rfl, .inr hl⟩, .inl rfl⟩
    · exact ⟨3, _, .inr ⟨rfl, rfl, hh, by omega⟩, .inr rfl⟩
theorem pq_arm (h : Pq w0 w s r L1 L2 R) (x : Tm) (hx : x.ok) (e0 : Int) (L' : List Tm) (ha : Ar L1 x e0 L') :
    Calls Try.prog 14 #[.pointer (some ⟨s, 0, none⟩), .agg #[.int .u8 x.k.kd, .int .u64 x.k.id], .int .u64 x.t] w fun e w' => e = .returned (.int .i64 e0) ∧ Pq w0 w' s r L' L2 R := by
  obtain ⟨F, h1, h2⟩ := h.set
  rcases ha with ⟨rfl, rfl, hc⟩ | ⟨rfl, rfl, hn, hf⟩
  · refine (sx_arm h1 x hx hc).mono ?_
    rintro e w' ⟨rfl, ht⟩
    exact ⟨rfl, h2 ht⟩
  · refine (sx_full h1 x.k x.t hx.k hn hf).mono ?_
    rintro e w' ⟨rfl, ht⟩
    exact ⟨rfl, h2 ht⟩
theorem pq_rarm (h : Pq w0 w s r L1 L2 R) (x : Tm) (hx : x.ok) (e0 : Int) (L' : List Tm) (ha : Ar L2 x e0 L') :
    Calls Try.prog 19 #[.pointer (some ⟨r, 0, none⟩), .agg #[.int .u8 x.k.kd, .int .u64 x.k.id], .int .u64 x.t] w fun e w' => e = .returned (.int .i64 e0) ∧ Pq w0 w' s r L1 L' R := by
  obtain ⟨F, h1, h2⟩ := h.ref
  rcases ha with ⟨rfl, rfl, hc⟩ | ⟨rfl, rfl, hn, hf⟩
  · refine (rs_arm h1 x hx hc).mono ?_
    rintro e w' ⟨rfl, ht⟩
    exact ⟨rfl, h2 ht⟩
  · refine (rs_full h1 x.k x.t hx.k hn hf).mono ?_
    rintro e w' ⟨rfl, ht⟩
    exact ⟨rfl, h2 ht⟩
theorem pq_cancel (h : Pq w0 w s r L1 L2 R) (k : Tk) (hk : k.ok) (b : Bool) (hb : has L1 k = b) :
    Calls Try.prog 15 #[.pointer (some ⟨s, 0, none⟩), .agg #[.int .u8 k.kd, .int .u64 k.id]] w fun e w' => e = .returned (.bool b) ∧ Pq w0 w' s r (del L1 k) L2 R := by
  obtain ⟨F, h1, h2⟩ := h.set
  refine (sx_cancel h1 k hk b hb).mono ?_
  rintro e w' ⟨rfl, ht⟩
  exact ⟨rfl, h2 ht⟩
theorem pq_rcancel (h : Pq w0 w s r L1 L2 R) (k : Tk) (hk : k.ok) (b : Bool) (hb : has L2 k = b) :
    Calls Try.prog 20 #[.pointer (some ⟨r, 0, none⟩), .agg #[.int .u8 k.kd, .int .u64 k.id]] w fun e w' => e = .returned (.bool b) ∧ Pq w0 w' s r L1 (del L2 k) R := by
  obtain ⟨F, h1, h2⟩ := h.ref
  refine (rs_cancel h1 k hk b hb).mono ?_
  rintro e w' ⟨rfl, ht⟩
  exact ⟨rfl, h2 ht⟩
theorem pq_due (h : Pq w0 w s r L1 L2 R) (now : Int) (x : Tm) (b : Bool) (L' : List Tm) (hx : Du L1 now x b L') : Calls Try.prog 12 #[.pointer (some ⟨s, 0, none⟩), .int .u64 now] w fun e w' => e = .returned (.tuple #[.agg #[.int .u8 x.k.kd, .int .u64 x.k.id], .int .u64 x.t, .bool b]) ∧ Pq w0 w' s r L' L2 R := by
  obtain ⟨F, h1, h2⟩ := h.set
  refine (sx_due h1 now x b L' hx).mono ?_
  rintro e w' ⟨rfl, ht⟩
  exact ⟨rfl, h2 ht⟩
theorem pq_rdue (h : Pq w0 w s r L1 L2 R) (now : Int) (x : Tm) (b : Bool) (L' : List Tm) (hx : Du L2 now x b L') : Calls Try.prog 21 #[.pointer (some ⟨r, 0, none⟩), .int .u64 now] w fun e w' => e = .returned (.tuple #[.agg #[.int .u8 x.k.kd, .int .u64 x.k.id], .int .u64 x.t, .bool b]) ∧ Pq w0 w' s r L1 L' R := by
  obtain ⟨F, h1, h2⟩ := h.ref
  refine (rs_due h1 now x b L' hx).mono ?_
  rintro e w' ⟨rfl, ht⟩
  exact ⟨rfl, h2 ht⟩
end

set_option maxHeartbeats 2000000 in
theorem alike_any {w0 w : World} {s r : Nat} {L : List Tm} (h : Pq w0 w s r L L []) (k : Tk) (hk : k.ok) :
    Calls Try.prog 10 #[.pointer (some ⟨s, 0, none⟩), .pointer (some ⟨r, 0, none⟩), .agg #[.int .u8 k.kd, .int .u64 k.id]] w fun e w' => e = .returned (.bool true) ∧ Pq w0 w' s r L L [] := by
  obtain ⟨x, b, hx, hxok⟩ := h.next
  have HX := veil hx
  have XOK := veil hxok
  have HK := veil hk
  have H1 := veil (h.alloc 33 #[.int .u8 k.kd, .int .u64 k.id])
  obtain ⟨g5, hg⟩ : ∃ g, w.heap.size = g := ⟨_, rfl⟩
  rw [hg] at H1
  clear h hx hxok hk
  go_enter Try.func10, Try.ntmps10
  go_wp2_with fail
  clear hg
  generalize w.alloc (.cells #[.int .u8 k.kd, .int .u64 k.id] 33) = w1 at *
  refine (pq_next H1.out x b HX.out).mono ?_
  rintro e w2 ⟨rfl, h2⟩
  have H2 := veil (h2.alloc 33 #[.int .u8 x.k.kd, .int .u64 x.k.id])
  clear h2 H1
  go_wp2_with fail
  generalize w2.alloc (.cells #[.int .u8 x.k.kd, .int .u64 x.k.id] 33) = w3 at *
  generalize w2.heap.size = g7 at *
  refine (pq_rnext H2.out x b HX.out).mono ?_
  rintro e w4 ⟨rfl, h4⟩
  have H4 := veil (h4.alloc 33 #[.int .u8 x.k.kd, .int .u64 x.k.id])
  clear h4 H2
  obtain ⟨g10, hg⟩ : ∃ g, w4.heap.size = g := ⟨_, rfl⟩
  rw [hg] at H4
  have k5 := H4.out.row (g := g5) (t := 33) (cs := #[.int .u8 k.kd, .int .u64 k.id]) (by simp)
  have z0 : (w4.alloc (.cells #[.int .u8 x.k.kd, .int .u64 x.k.id] 33)).cell? ⟨g5, 0, none⟩ = some (.int .u8 k.kd) := k5.cell 0
  have z1 : (w4.alloc (.cells #[.int .u8 x.k.kd, .int .u64 x.k.id] 33)).cell? ⟨g5, 1, none⟩ = some (.int .u64 k.id) := k5.cell 1
  clear k5
  go_wp2_with fail
  clear z0 z1 hg
  generalize w4.alloc (.cells #[.int .u8 x.k.kd, .int .u64 x.k.id] 33) = w5 at *
  obtain ⟨t, ht⟩ : ∃ t, tm L k = t := ⟨_, rfl⟩
  obtain ⟨a, ha⟩ : ∃ a, has L k = a := ⟨_, rfl⟩
  have HT := veil ht
  have HA := veil ha
  clear ht ha
  refine (pq_at H4.out k HK.out t a HT.out HA.out).mono ?_
  rintro e w6 ⟨rfl, h6⟩
  have H6 := veil h6
  clear h6 H4
  have k5 := H6.out.row (g := g5) (t := 33) (cs := #[.int .u8 k.kd, .int .u64 k.id]) (by simp)
  have z0 : w6.cell? ⟨g5, 0, none⟩ = some (.int .u8 k.kd) := k5.cell 0
  have z1 : w6.cell? ⟨g5, 1, none⟩ = some (.int .u64 k.id) := k5.cell 1
  clear k5
  go_wp2_with fail
  clear z0 z1
  refine (pq_rat H6.out k HK.out t a HT.out HA.out).mono ?_
  rintro e w7 ⟨rfl, h7⟩
  have H7 := veil h7
  clear h7 H6
  obtain ⟨A, c, hc⟩ := pq_rlen H7.out
  have q7 := H7.out.row (g := g7) (t := 33) (cs := #[.int .u8 x.k.kd, .int .u64 x.k.id]) (by simp)
  have q10 := H7.out.row (g := g10) (t := 33) (cs := #[.int .u8 x.k.kd, .int .u64 x.k.id]) (by simp)
  have a0 : w7.cell? ⟨g7, 0, none⟩ = some (.int .u8 x.k.kd) := q7.cell 0
  have a1 : w7.cell? ⟨g7, 1, none⟩ = some (.int .u64 x.k.id) := q7.cell 1
  have b0 : w7.cell? ⟨g10, 0, none⟩ = some (.int .u8 x.k.kd) := q10.cell 0
  have b1 : w7.cell? ⟨g10, 1, none⟩ = some (.int .u64 x.k.id) := q10.cell 1
  have hb := eql_key XOK.out.k XOK.out.k (z := true) (by rw [sameK_iff])
  obtain ⟨m, hm⟩ : ∃ m, L.length = m := ⟨_, rfl⟩
  rw [hm] at hc
  have HM := veil hm
  clear q7 q10 hm
  go_wp2_with fail
  go_quiet ((go_at_call 16; exact quiet_as (pq_len (H7.out.drew _) m HM.out)))
  clear hb
  go_wp2_with fail
  go_ret
  exact ⟨rfl, (H7.out.drew _).less (by simp)⟩

theorem Pq.act {w0 w : World} {s r : Nat} {L1 L2 : List Tm} {R : List (Nat × TypeId × Array Value)} {g : Nat} {d : Deed} (h : Pq w0 w s r L1 L2 R) (hp : (g, 35, (dv d).toArray) ∈ R) :
    w.cell? ⟨g, 1, none⟩ = some (.int .u8 d.x.k.kd) ∧ w.cell? ⟨g, 2, none⟩ = some (.int .u64 d.x.k.id) ∧ w.cell? ⟨g, 3, none⟩ = some (.int .u64 d.x.t) :=
  ⟨(h.row hp).cell 1, (h.row hp).cell 2, (h.row hp).cell 3⟩

set_option maxHeartbeats 2000000 in
theorem one_any {w0 w : World} {s r : Nat} {L : List Tm} (h : Pq w0 w s r L L []) (d : Deed) (hd : d.ok) :
    Calls Try.prog 9 #[.pointer (some ⟨s, 0, none⟩), .pointer (some ⟨r, 0, none⟩), .agg #[.int .u8 d.kd, .int .u8 d.x.k.kd, .int .u64 d.x.k.id, .int .u64 d.x.t]] w fun e w' => e = .returned (.bool true) ∧ ∃ L', Pq w0 w' s r L' L' [] := by
  have HD := veil hd
  have hk0 := hd.a0
  have hk1 := hd.a1
  have H1 := veil (h.alloc 35 (dv d).toArray)
  have LIM := veil h.lim
  obtain ⟨g5, hg⟩ : ∃ g, w.heap.size = g := ⟨_, rfl⟩
  rw [hg] at H1
  have q5 := H1.out.row (g := g5) (t := 35) (cs := (dv d).toArray) (by simp)
  have c0 : (w.alloc (.cells #[.int .u8 d.kd, .int .u8 d.x.k.kd, .int .u64 d.x.k.id, .int .u64 d.x.t] 35)).cell? ⟨g5, 0, none⟩ = some (.int .u8 d.kd) := q5.cell 0
  have H1' : Hid (Pq w0 (w.alloc (.cells #[.int .u8 d.kd, .int .u8 d.x.k.kd, .int .u64 d.x.k.id, .int .u64 d.x.t] 35)) s r L L [(g5, 35, (dv d).toArray)]) := H1
  clear h hd q5 H1
  by_cases m0 : d.kd % 4 = 0 ∨ d.kd % 4 = 1
  · obtain ⟨e0, L', ha, he⟩ := ar_ex L d.x LIM.out
    have HA := veil ha
    clear ha he
    rcases m0 with m0 | m0
    · have hkk : (d.kd % 4 == 0) = true := beq_iff_eq.2 m0
      clear m0
      go_enter Try.func9, Try.ntmps9
      go_wp2_with fail
      clear hg c0
      generalize w.alloc (.cells #[.int .u8 d.kd, .int .u8 d.x.k.kd, .int .u64 d.x.k.id, .int .u64 d.x.t] 35) = w1 at *
      have D := veil (H1'.out.drew 1)
      clear H1'
      go_region_held3 (fun w' => w'.cell? ⟨g5, 1, none⟩ = some (.int .u8 d.x.k.kd) ∧ w'.cell? ⟨g5, 2, none⟩ = some (.int .u64 d.x.k.id) ∧ w'.cell? ⟨g5, 3, none⟩ = some (.int .u64 d.x.t)) (first | exact D.out.act (by simp))
        (first
          | (go_at_call 14
             refine (pq_arm D.out d.x HD.out.x e0 L' HA.out).mono ?_
             rintro e w9 ⟨rfl, h9⟩
             have D := veil h9
             clear h9)
          | (go_at_call 19
             refine (pq_rarm D.out d.x HD.out.x e0 L' HA.out).mono ?_
             rintro e w9 ⟨rfl, h9⟩
             have D := veil h9
             clear h9))
      go_wp2_with fail
      go_ret
      exact ⟨rfl, _, D.out.less (by simp)⟩
    · have hkk : (d.kd % 4 == 1) = true := beq_iff_eq.2 m0
      have hkk0 : (d.kd % 4 == 0) = false := beq_eq_false_iff_ne.2 (by omega)
      clear m0
      go_enter Try.func9, Try.ntmps9
      go_wp2_with fail
      clear hg c0
      generalize w.alloc (.cells #[.int .u8 d.kd, .int .u8 d.x.k.kd, .int .u64 d.x.k.id, .int .u64 d.x.t] 35) = w1 at *
      have D := veil (H1'.out.drew 1)
      clear H1'
      go_region_held3 (fun w' => w'.cell? ⟨g5, 1, none⟩ = some (.int .u8 d.x.k.kd) ∧ w'.cell? ⟨g5, 2, none⟩ = some (.int .u64 d.x.k.id) ∧ w'.cell? ⟨g5, 3, none⟩ = some (.int .u64 d.x.t)) (first | exact D.out.act (by simp))
        (first
          | (go_at_call 14
             refine (pq_arm D.out d.x HD.out.x e0 L' HA.out).mono ?_
             rintro e w9 ⟨rfl, h9⟩
             have D := veil h9
             clear h9)
          | (go_at_call 19
             refine (pq_rarm D.out d.x HD.out.x e0 L' HA.out).mono ?_
             rintro e w9 ⟨rfl, h9⟩
             have D := veil h9
             clear h9))
      go_wp2_with fail
      go_ret
      exact ⟨rfl, _, D.out.less (by simp)⟩
  · have hk2 : (d.kd % 4 == 0) = false := beq_eq_false_iff_ne.2 (by omega)
    have hk3 : (d.kd % 4 == 1) = false := beq_eq_false_iff_ne.2 (by omega)
    by_cases m2 : d.kd % 4 = 2
    · have hkk : (d.kd % 4 == 2) = true := beq_iff_eq.2 m2
      obtain ⟨b, hb⟩ : ∃ b, has L d.x.k = b := ⟨_, rfl⟩
      have HBB := veil hb
      clear m0 m2 hb
      go_enter Try.func9, Try.ntmps9
      go_wp2_with fail
      clear hg c0
      generalize w.alloc (.cells #[.int .u8 d.kd, .int .u8 d.x.k.kd, .int .u64 d.x.k.id, .int .u64 d.x.t] 35) = w1 at *
      have D := veil (H1'.out.drew 1)
      clear H1'
      go_region_held3 (fun w' => w'.cell? ⟨g5, 1, none⟩ = some (.int .u8 d.x.k.kd) ∧ w'.cell? ⟨g5, 2, none⟩ = some (.int .u64 d.x.k.id) ∧ w'.cell? ⟨g5, 3, none⟩ = some (.int .u64 d.x.t)) (first | exact D.out.act (by simp))
        (first
          | (go_at_call 15
             refine (pq_cancel D.out d.x.k HD.out.x.k b HBB.out).mono ?_
             rintro e w9 ⟨rfl, h9⟩
             have D := veil h9
             clear h9)
          | (go_at_call 20
             refine (pq_rcancel D.out d.x.k HD.out.x.k b HBB.out).mono ?_
             rintro e w9 ⟨rfl, h9⟩
             have D := veil h9
             clear h9))
      go_wp2_with fail
      go_ret
      exact ⟨rfl, _, D.out.less (by simp)⟩
    · have hkk : (d.kd % 4 == 2) = false := beq_eq_false_iff_ne.2 m2
      obtain ⟨x, b, L', hx, hxok⟩ := H1'.out.due d.x.t
      have HX := veil hx
      have XOK := veil hxok
      clear m0 m2 hx hxok
      obtain ⟨y1, y2, y3⟩ := H1'.out.act (g := g5) (d := d) (by simp)
      go_enter Try.func9, Try.ntmps9
      go_wp2_with fail
      clear hg c0 y1 y2 y3
      generalize w.alloc (.cells #[.int .u8 d.kd, .int .u8 d.x.k.kd, .int .u64 d.x.k.id, .int .u64 d.x.t] 35) = w1 at *
      refine (pq_due H1'.out d.x.t x b L' HX.out).mono ?_
      rintro e w2 ⟨rfl, h2⟩
      have H2 := veil (h2.alloc 33 #[.int .u8 x.k.kd, .int .u64 x.k.id])
      clear h2 H1'
      obtain ⟨g7, hg⟩ : ∃ g, w2.heap.size = g := ⟨_, rfl⟩
      rw [hg] at H2
      obtain ⟨y1, y2, y3⟩ := H2.out.act (g := g5) (d := d) (by simp)
      go_wp2_with fail
      clear hg y1 y2 y3
      generalize w2.alloc (.cells #[.int .u8 x.k.kd, .int .u64 x.k.id] 33) = w3 at *
      refine (pq_rdue H2.out d.x.t x b L' HX.out).mono ?_
      rintro e w4 ⟨rfl, h4⟩
      have H4 := veil (h4.alloc 33 #[.int .u8 x.k.kd, .int .u64 x.k.id])
      clear h4 H2
      obtain ⟨g10, hg⟩ : ∃ g, w4.heap.size = g := ⟨_, rfl⟩
      rw [hg] at H4
      have q7 := H4.out.row (g := g7) (t := 33) (cs := #[.int .u8 x.k.kd, .int .u64 x.k.id]) (by simp)
      have q10 := H4.out.row (g := g10) (t := 33) (cs := #[.int .u8 x.k.kd, .int .u64 x.k.id]) (by simp)
      have a0 : (w4.alloc (.cells #[.int .u8 x.k.kd, .int .u64 x.k.id] 33)).cell? ⟨g7, 0, none⟩ = some (.int .u8 x.k.kd) := q7.cell 0
      have a1 : (w4.alloc (.cells #[.int .u8 x.k.kd, .int .u64 x.k.id] 33)).cell? ⟨g7, 1, none⟩ = some (.int .u64 x.k.id) := q7.cell 1
      have b0 : (w4.alloc (.cells #[.int .u8 x.k.kd, .int .u64 x.k.id] 33)).cell? ⟨g10, 0, none⟩ = some (.int .u8 x.k.kd) := q10.cell 0
      have b1 : (w4.alloc (.cells #[.int .u8 x.k.kd, .int .u64 x.k.id] 33)).cell? ⟨g10, 1, none⟩ = some (.int .u64 x.k.id) := q10.cell 1
      have hbb := eql_key XOK.out.k XOK.out.k (z := true) (by rw [sameK_iff])
      clear q7 q10
      go_wp2_with fail
      go_ret
      exact ⟨rfl, _, H4.out.less (by simp)⟩

end Go.Proofs.Ytkjgmimfnmilfaa.Tm5
