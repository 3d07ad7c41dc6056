/-
  What the queue's Pop and Push do.
  Conditions: at most 256 timers.
-/
import Derived.Test.YtkjgmimfnmilfaaTmrQ
namespace Go.Proofs.Ytkjgmimfnmilfaa.Tm5
open Go.RowKit Go.Proofs.Ytkjgmimfnmilfaa.Ops

set_option maxHeartbeats 1000000 in
theorem pop_any {w : World} {q b : Nat} {A : Option Addr} {n c : Nat} {l : List Tm} {x : Tm} {f : Tk → Option Nat} (h : Qu w q b A (n + 1) c (l ++ [x]) f) :
    Calls Try.prog 53 #[.pointer (some ⟨q, 0, none⟩)] w
      fun e w' => e = .returned (.iface 61 (.agg (tv x).toArray)) ∧ Qu w' q b A n c l f ∧ Kept (Foot q b A) w w' := by
  have hlim := h.lim
  have hlen : l.length = n := by have := h.len; simpa using this
  have H := veil h
  obtain ⟨g, rest, rfl, hr, hc1, hc2, hc3, hgq, hgb⟩ := h.at0 (by omega)
  have c0 : w.cell? ⟨q, 0, none⟩ = some (.slice (some ⟨g, 0, none⟩) (n + 1) c) := h.row.cell 0
  have f0 : w.frozen? ⟨q, 0, none⟩ = false := h.row.frozen 0
  have hx : ix (l ++ [x]) n = x := by rw [← hlen, ix_snoc]
  have i0 : w.cell? ⟨g, n * 3, none⟩ = some (.int .u8 x.k.kd) := by have := cell_get hr (i := n) (by simp; omega) 0 (by omega); rw [hx] at this; exact this
  have i1 : w.cell? ⟨g, n * 3 + 1, none⟩ = some (.int .u64 x.k.id) := by have := cell_get hr (i := n) (by simp; omega) 1 (by omega); rw [hx] at this; exact this
  have i2 : w.cell? ⟨g, n * 3 + 2, none⟩ = some (.int .u64 x.t) := by have := cell_get hr (i := n) (by simp; omega) 2 (by omega); rw [hx] at this; exact this
  have hq := h.row.lt
  have hnc : n ≤ c := by omega
  have HL := veil hlen
  have HG := veil (And.intro hgq hgb)
  clear hr hx hlen hc3 hc2 h hgq hgb
  go_enter Try.func53, Try.ntmps53
  go_wp2_with fail
  go_ret
  have k1 : Kept [q] w ((w.setCell ⟨q, 0, none⟩ (.slice (some ⟨g, 0, none⟩) n c)).alloc (.cells #[.int .u8 x.k.kd, .int .u64 x.k.id, .int .u64 x.t] 61)) := (kept_set (by simp)).trans' (kept_alloc _ _ _)
  have r1 := (H.out.row.set 0 (.slice (some ⟨g, 0, none⟩) n c)).keep (below_new _ (.cells #[.int .u8 x.k.kd, .int .u64 x.k.id, .int .u64 x.t] 61))
  have l1 := H.out.ls.pop
  rw [HL.out] at l1
  exact ⟨rfl, ⟨r1, l1.kept k1 (fun z hz => by simp [Value.ownBlock] at hz; subst hz; simp; exact HG.out.1), HL.out, H.out.mp.kept k1 (by simp; exact H.out.mp.ne H.out.row), fun z hz => H.out.ok z (by simp [hz]), by omega⟩, k1.mono (by simp [Foot])⟩

theorem assert_any (v : Value) (w : World) : (Instr.typeAssert (.iface 61 v) 20 61 false).run Try.prog w = .ok v w := by kernel_rfl

set_option maxHeartbeats 1000000 in
theorem qpush_any {w : World} {q b : Nat} {A : Option Addr} {n c : Nat} {l : List Tm} {x : Tm} {f : Tk → Option Nat} (h : Qu w q b A n c l f) (hx : x.ok) (hn : n < 256) :
    Calls Try.prog 54 #[.pointer (some ⟨q, 0, none⟩), .iface 61 (.agg (tv x).toArray)] w
      fun e w' => e = .returned (.tuple #[]) ∧ ∃ A' c', Qu w' q b A' (n + 1) c' (l ++ [x]) (upd f x.k (some n)) ∧ Kept (Foot q b A) w w' ∧ ∀ z ∈ Foot q b A', z ∈ Foot q b A ∨ w.heap.size ≤ z := by
  have H := veil h
  have HX := veil hx
  have hlen := h.len
  clear h hx
  show Calls _ _ #[.pointer (some ⟨q, 0, none⟩), .iface 61 (.agg #[.int .u8 x.k.kd, .int .u64 x.k.id, .int .u64 x.t])] w _
  have b0 := box_new (w := w) (x := x) (T := 61) rfl
  have h1 := H.out.keep (below_new w (.cells #[.int .u8 x.k.kd, .int .u64 x.k.id, .int .u64 x.t] 61))
  have k1 := kept_alloc (Foot q b A) w (.cells #[.int .u8 x.k.kd, .int .u64 x.k.id, .int .u64 x.t] 61)
  have s1 : w.heap.size < (w.alloc (.cells #[.int .u8 x.k.kd, .int .u64 x.k.id, .int .u64 x.t] 61)).heap.size := by simp
  have ta := assert_any
  go_enter Try.func54, Try.ntmps54
  go_wp2_with fail
  clear ta
  generalize w.alloc (.cells #[.int .u8 x.k.kd, .int .u64 x.k.id, .int .u64 x.t] 61) = w1 at b0 h1 k1 s1 ⊢
  have gq : ∀ z ∈ Foot q b A, z < w.heap.size := by
    intro z hz
    simp [Foot] at hz
    rcases hz with rfl | rfl | ⟨a, ha, rfl⟩
    · exact H.out.row.lt
    · exact H.out.mp.lt
    · subst ha
      exact (H.out.ls.lt a.block rfl).2
  obtain ⟨s, hs⟩ : ∃ s, w.heap.size = s := ⟨_, rfl⟩
  rw [hs] at b0 s1 gq ⊢
  have c0 : w1.cell? ⟨q, 0, none⟩ = some (.slice A n c) := h1.row.cell 0
  have c1 : w1.cell? ⟨q, 1, none⟩ = some (.map (some b)) := h1.row.cell 1
  have i0 := b0.1
  have i1 := b0.2.1
  have i2 := b0.2.2
  obtain ⟨w2, hrun, m2, g2⟩ := (h1.mp.kept (kept_drew [] w1) (by simp)).store HX.out.k n
  have k2 : Kept [b] w1 w2 := (kept_drew [b] w1).trans' (kept_gb g2 (by simp))
  have HS := veil hs
  have U := veil hrun
  have M2 := veil m2
  have K1 := veil k1
  have K2 := veil k2
  have B0 := veil b0
  have H1 := veil h1
  have GQ := veil gq
  have HL := veil hlen
  clear hs hrun m2 g2 k1 k2 b0 h1 gq hlen
  go_still_tail 11, (by kernel_rfl)
  change wpList _ _ _ _ _ w1.drew
  clear c0 c1 i0 i1 i2
  go_wp2_with (first | (refine wpList_update_of rfl (.tmp 10) (.tmp 12) (.tmp 17) rfl rfl rfl rfl U.out ?_))
  have k2 := K2.out
  have sb : s ≠ b := fun e => by have := GQ.out b (by simp [Foot]); omega
  have qb : b ≠ q := H1.out.mp.ne H1.out.row
  have RQ := veil (row_kept H1.out.row k2 (by simp; exact fun e => qb e.symm))
  have L2 : Ls 61 w2 (.slice A n c) l := H1.out.ls.kept k2 (fun z hz => by
    simp only [List.mem_singleton]
    rintro rfl
    rcases H1.out.ls.row with ⟨e, _⟩ | ⟨g, cap, rest, e, hr, _⟩
    · injection e with e; subst e; simp [Value.ownBlock] at hz
    · injection e with e; subst e; simp [Value.ownBlock] at hz; exact H1.out.mp.ne hr hz.symm)
  have i0 : w2.cell? ⟨s, 0, none⟩ = some (.int .u8 x.k.kd) := cell_kept B0.out.1 k2 (by simp; exact sb)
  have i1 : w2.cell? ⟨s, 1, none⟩ = some (.int .u64 x.k.id) := cell_kept B0.out.2.1 k2 (by simp; exact sb)
  have i2 : w2.cell? ⟨s, 2, none⟩ = some (.int .u64 x.t) := cell_kept B0.out.2.2 k2 (by simp; exact sb)
  have rn : Row (w2.drew.alloc (.cells #[.int .u8 x.k.kd, .int .u64 x.k.id, .int .u64 x.t] 61)) w2.heap.size 61 #[.int .u8 x.k.kd, .int .u64 x.k.id, .int .u64 x.t] := row_new rfl
  have kA : Kept (Foot q b A) w2 (w2.drew.alloc (.cells #[.int .u8 x.k.kd, .int .u64 x.k.id, .int .u64 x.t] 61)) := (kept_drew _ w2).trans' (kept_alloc _ _ _)
  obtain ⟨v', w3, hrun, hls, hg, hloc⟩ := run_more Try.underlying57 info_q (w2.drew.alloc (.cells #[.int .u8 x.k.kd, .int .u64 x.k.id, .int .u64 x.t] 61)) 57 (.slice A n c) l [x]
    (L2.kept (F := []) ((kept_drew _ w2).trans' (kept_alloc _ _ _)) (by simp)) ⟨w2.heap.size, 0, none⟩ 1 (fun j u hu => by
      have hadd : (⟨w2.heap.size, 0, none⟩ : Addr).add j = ⟨w2.heap.size, j, none⟩ := by unfold Addr.add; split <;> simp_all
      rw [hadd, rn.cell]
      simpa [cv, tv] using hu) (by simp; rw [HL.out]; omega)
  obtain ⟨A', c', rfl, _⟩ := hls.slice
  have hl1 : (l ++ [x]).length = n + 1 := by simp [HL.out]
  rw [hl1] at hls hrun hloc
  have kB : Kept (Foot q b A) w2 w3 := kA.trans' (kept_gbo hg (fun z hz => by cases A <;> simp [Value.ownBlock] at hz; simp [Foot, hz]))
  have hqA : ∀ z, (Value.slice A n c).ownBlock = some z → z ≠ q := by
    rintro z hz rfl
    rcases H1.out.ls.row with ⟨e, _⟩ | ⟨g, cap, rest, e, hr, _⟩
    · injection e with e; subst e; simp [Value.ownBlock] at hz
    · injection e with e; subst e; simp [Value.ownBlock] at hz; exact row_ne hr H1.out.row (by decide) hz
  have hbA : ∀ z, (Value.slice A n c).ownBlock = some z → z ≠ b := by
    rintro z hz rfl
    rcases H1.out.ls.row with ⟨e, _⟩ | ⟨g, cap, rest, e, hr, _⟩
    · injection e with e; subst e; simp [Value.ownBlock] at hz
    · injection e with e; subst e; simp [Value.ownBlock] at hz; exact H1.out.mp.ne hr hz.symm
  have rqA := RQ.out.below (below_still (below_new w2 (.cells #[.int .u8 x.k.kd, .int .u64 x.k.id, .int .u64 x.t] 61)) ⟨1, rfl⟩) RQ.out.lt
  have rq3 : Row w3 q 59 #[.slice A n c, .map (some b)] := rqA.gb hg (fun e => hqA q e.symm rfl)
  have mpA : Mp (w2.drew.alloc (.cells #[.int .u8 x.k.kd, .int .u64 x.k.id, .int .u64 x.t] 61)) b (upd f x.k (some n)) := M2.out.kept (F := []) ((kept_drew _ w2).trans' (kept_alloc _ _ _)) (by simp)
  have mp3 : Mp w3 b (upd f x.k (some n)) := mpA.kept (F := (Value.slice A n c).ownBlock.toList) (kept_gbo hg (fun z hz => by simp [hz])) (by simp; exact fun z => hbA b z rfl)
  have c0 : w2.cell? ⟨q, 0, none⟩ = some (.slice A n c) := RQ.out.cell 0
  have c0' : (w2.alloc (.cells #[.int .u8 x.k.kd, .int .u64 x.k.id, .int .u64 x.t] 61)).cell? ⟨q, 0, none⟩ = some (.slice A n c) := rqA.cell 0
  have d0 : w3.cell? ⟨q, 0, none⟩ = some (.slice A n c) := rq3.cell 0
  have d1 : w3.frozen? ⟨q, 0, none⟩ = false := rq3.frozen 0
  have r4 := rq3.set 0 (.slice A' (n + 1) c')
  have k4 : Kept [q] w3 (w3.setCell ⟨q, 0, none⟩ (.slice A' (n + 1) c')) := kept_set (by simp)
  have bl : ∀ z, (Value.slice A' (n + 1) c').ownBlock = some z → z ≠ q := by
    rintro z hz rfl
    rcases hls.row with ⟨e, _⟩ | ⟨g, cap, rest, e, hr, _⟩
    · injection e with e; subst e; simp [Value.ownBlock] at hz
    · injection e with e; subst e; simp [Value.ownBlock] at hz; exact row_ne hr rq3 (by decide) hz
  have Z := veil (show Qu (w3.setCell ⟨q, 0, none⟩ (.slice A' (n + 1) c')) q b A' (n + 1) c' (l ++ [x]) (upd f x.k (some n)) ∧ Kept (Foot q b A) w (w3.setCell ⟨q, 0, none⟩ (.slice A' (n + 1) c')) ∧ ∀ z ∈ Foot q b A', z ∈ Foot q b A ∨ w.heap.size ≤ z from by
    refine ⟨⟨r4, hls.kept k4 (fun z hz => by simp; exact bl z hz), hl1, mp3.kept k4 (by simp; exact qb), ?_, by omega⟩, ?_, ?_⟩
    · intro z hz
      rcases List.mem_append.1 hz with hz | hz
      · exact H.out.ok z hz
      · simp at hz; subst hz; exact HX.out
    · exact ((K1.out.trans' (k2.mono (by simp [Foot]))).trans' kB).trans' (k4.mono (by simp [Foot]))
    · intro z hz
      simp only [Foot, List.mem_cons, Option.mem_toList] at hz ⊢
      rcases hz with rfl | rfl | hz
      · exact .inl (.inl rfl)
      · exact .inl (.inr (.inl rfl))
      · cases A' with
        | none => simp at hz
        | some a' =>
          simp at hz
          subst hz
          rcases hloc with e | e
          · simp only [Value.ownBlock] at e
            cases A with
            | none => simp at e
            | some a => simp at e; exact .inl (.inr (.inr (by simp [e])))
          · simp only [Value.ownBlock] at e
            simp at e
            have := K1.out.size
            have := k2.size
            exact .inr (by omega))
  have HR := veil hrun
  clear hrun hls hg hloc hl1 kA kB hqA hbA rqA rq3 mpA mp3 r4 k4 bl rn L2 k2 sb qb M2 U
  go_region_law (refine step_append_of rfl (.tmp 22) (.tmp 24) rfl rfl rfl HR.out ?_)
  all_goals
    clear c0 c0' d0 d1 i0 i1 i2 HR
    go_wp2_with fail
    go_end0
    exact ⟨rfl, A', c', Z.out⟩

end Go.Proofs.Ytkjgmimfnmilfaa.Tm5
