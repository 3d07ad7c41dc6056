/-
  What the queue's move and take do.
  Conditions: at most 256 timers.
-/
import Derived.Test.YtkjgmimfnmilfaaTmrF
namespace Go.Proofs.Ytkjgmimfnmilfaa.Tm5
open Go.RowKit Go.Proofs.Ytkjgmimfnmilfaa.Ops

theorem Qu.foot {w : World} {q b : Nat} {A : Option Addr} {n c : Nat} {l : List Tm} {f : Tk → Option Nat} (h : Qu w q b A n c l f) : ∀ z ∈ Foot q b A, z < w.heap.size := by
  intro z hz
  simp [Foot] at hz
  rcases hz with rfl | rfl | ⟨a, ha, rfl⟩
  · exact h.row.lt
  · exact h.mp.lt
  · subst ha
    exact (h.ls.lt a.block rfl).2
theorem Qs.foot {w : World} {q b : Nat} {A : Option Addr} {n c : Nat} {l : List Tm} (h : Qs w q b A n c l) : ∀ z ∈ Foot q b A, z < w.heap.size := by obtain ⟨f, h, _⟩ := h; exact h.foot

theorem cv_set1 {l : List Tm} {i : Nat} {t : Int} {rest : List Value} (h : i < l.length) : (cv l ++ rest).set (i * 3 + 2) (.int .u64 t) = cv (l.set i ⟨(ix l i).k, t⟩) ++ rest := by
  have hs : i < (l.set i ⟨(ix l i).k, t⟩).length := by simpa using h
  have e2 : cv (l.set i ⟨(ix l i).k, t⟩) = cv (l.take i) ++ (tv ⟨(ix l i).k, t⟩ ++ cv (l.drop (i + 1))) := by
    rw [cv_split hs, ix_set h, if_pos rfl, List.take_set_of_le (Nat.le_refl _), List.drop_set_of_lt (by omega)]
  have hl := take_len h
  rw [e2, cv_split h]
  generalize cv (l.take i) = P at *
  rw [← hl]
  simp [List.set_append_right, tv]

theorem armed_set {l : List Tm} {f : Tk → Option Nat} {i : Nat} {x : Tm} (h : Pl l f) (hi : i < l.length) (hx : x.k = (ix l i).k) : Armed l (l.set i x) x := by
  intro y
  rw [mem_ix]
  constructor
  · rintro ⟨c, hc, rfl⟩
    rw [ix_set hi]
    by_cases e : c = i
    · rw [if_pos e]; exact .inl rfl
    · rw [if_neg e]
      have hc' : c < l.length := by simpa using hc
      exact .inr ⟨ix_mem hc', fun q => e (h.inj hc' hi (by rw [q, hx]))⟩
  · rintro (rfl | ⟨hy, hk⟩)
    · exact ⟨i, by simpa using hi, by rw [ix_set hi, if_pos rfl]⟩
    · obtain ⟨c, hc, rfl⟩ := mem_ix.1 hy
      refine ⟨c, by simpa using hc, ?_⟩
      rw [ix_set hi, if_neg]
      rintro rfl
      exact hk hx.symm

/-- what arming one that is armed leaves; what taking one leaves -/
def Moved (w w' : World) (q b : Nat) (A : Option Addr) (n c : Nat) (l : List Tm) (x : Tm) : Prop := ∃ l', Hq w' q b A n c l' ∧ Armed l l' x ∧ Kept (Foot q b A) w w'
def Taken (w w' : World) (q b : Nat) (A : Option Addr) (n c : Nat) (l : List Tm) (k : Tk) : Prop := ∃ l', Hq w' q b A n c l' ∧ Gone l l' k ∧ Kept (Foot q b A) w w'

theorem move_any {w : World} {q b : Nat} {A : Option Addr} {n c : Nat} {l : List Tm} (h : Hq w q b A n c l) (i : Nat) (hi : i < n) (t : Int) (ht : 0 ≤ t ∧ t ≤ 18446744073709551615) :
    Calls Try.prog 27 #[.pointer (some ⟨q, 0, none⟩), .int .i64 i, .int .u64 t] w fun e w' => e = .returned (.tuple #[]) ∧ Moved w w' q b A n c l ⟨(ix l i).k, t⟩ := by
  obtain ⟨⟨f, hq, hp⟩, hh⟩ := h
  have hl := hq.len
  have hlim := hq.lim
  obtain ⟨g, rest, rfl, hr, hc1, hc2, hc3, hgq, hgb⟩ := hq.at0 (by omega)
  have c0 : w.cell? ⟨q, 0, none⟩ = some (.slice (some ⟨g, 0, none⟩) n c) := hq.row.cell 0
  have i2 : w.cell? ⟨g, i * 3 + 2, none⟩ = some (.int .u64 (ix l i).t) := cell_get hr (by omega) 2 (by omega)
  have f2 : w.frozen? ⟨g, i * 3 + 2, none⟩ = false := hr.frozen _
  have r1 := hr.set (i * 3 + 2) (.int .u64 t)
  rw [List.setIfInBounds_toArray, cv_set1 (by omega)] at r1
  have k1 : Kept [g] w (w.setCell ⟨g, i * 3 + 2, none⟩ (.int .u64 t)) := kept_set (by simp)
  have hlen1 : (l.set i ⟨(ix l i).k, t⟩).length = n := by simpa using hl
  have ls1 := ls_mk r1 (cap := c) (by rw [hlen1]; exact hc1) hc2 (by rw [← hc3]; simp [cv_length])
  rw [hlen1] at ls1
  have hx := hq.ok _ (ix_mem (show i < l.length by omega))
  have q1 : Qs (w.setCell ⟨g, i * 3 + 2, none⟩ (.int .u64 t)) q b (some ⟨g, 0, none⟩) n c (l.set i ⟨(ix l i).k, t⟩) := by
    refine ⟨f, ⟨row_kept hq.row k1 (by simp; omega), ls1, hlen1, hq.mp.kept k1 (by simp; omega), ?_, hlim⟩, pl_set hp (by omega) rfl⟩
    intro y hy
    rcases List.mem_or_eq_of_mem_set hy with hy | rfl
    · exact hq.ok y hy
    · exact ⟨hx.k, ht.1, ht.2⟩
  have Q1 := veil q1
  have K1 := veil k1
  have D1 := veil (heap_set (x := ⟨(ix l i).k, t⟩) hh (show i < l.length by omega))
  have AR := veil (armed_set (x := ⟨(ix l i).k, t⟩) hp (show i < l.length by omega) rfl)
  clear q1 k1 ls1 hlen1 r1 hr hx hc1 hc2 hc3 hh hp hq hl hgq hgb ht
  generalize l.set i ⟨(ix l i).k, t⟩ = l1 at *
  generalize (ix l i).k = k0 at *
  go_enter Try.func27, Try.ntmps27
  go_wp2_with fail
  refine (fix_any Q1.out i hi D1.out).mono ?_
  rintro e w2 ⟨rfl, l2, g1, g2, g3, g4⟩
  have Z : Hid (Moved w w2 q b (some ⟨g, 0, none⟩) n c l ⟨k0, t⟩) := ⟨l2, ⟨g1, g2⟩, fun y => (g3.2.1 y).trans (AR.out y), (K1.out.mono (by simp [Foot])).trans' g4⟩
  clear g1 g2 g3 g4 c0 i2 f2
  go_wp2_with fail
  go_end0
  exact ⟨rfl, Z.out⟩

theorem gone_pop {l l0 : List Tm} {x : Tm} {f : Tk → Option Nat} (hp : Pl (l ++ [x]) f) (hs : ∀ y, y ∈ l ++ [x] ↔ y ∈ l0) : Gone l0 l x.k := by
  intro y
  rw [← hs y]
  have hk := hp.kn
  constructor
  · intro hy
    refine ⟨by simp [hy], fun e => ?_⟩
    have := (List.pairwise_append.1 hk).2.2 y hy x (by simp)
    exact this e
  · rintro ⟨hy, hne⟩
    rcases List.mem_append.1 hy with hy | hy
    · exact hy
    · simp at hy; subst hy; exact absurd rfl hne

theorem Taken.more {w w1 w2 : World} {q b : Nat} {A : Option Addr} {n c : Nat} {l : List Tm} {k : Tk} {r : Nat} (h : Taken w w1 q b A n c l k) (hk : Kept [r] w1 w2) (hr : r ∉ Foot q b A) (hw : w.heap.size ≤ r) : Taken w w2 q b A n c l k := by
  obtain ⟨l', h1, h2, h3⟩ := h
  exact ⟨l', ⟨h1.1.kept hk (fun x hx e => hr (by simp at e; rw [← e]; exact hx)), h1.2⟩, h2, h3.trans hk (by simp; exact .inr hw)⟩

set_option maxHeartbeats 1000000 in
theorem take_any {w : World} {q b : Nat} {A : Option Addr} {n c : Nat} {l : List Tm} (h : Hq w q b A (n + 1) c l) (i : Nat) (hi : i ≤ n) :
    Calls Try.prog 24 #[.pointer (some ⟨q, 0, none⟩), .int .i64 i] w fun e w' => e = .returned (.agg (tv (ix l i)).toArray) ∧ Taken w w' q b A n c l (ix l i).k := by
  have hl := h.1.len
  have hx : (ix l i).ok := by obtain ⟨f, hq, _⟩ := h.1; exact hq.ok _ (ix_mem (by omega))
  have H := veil h
  have HX := veil hx
  have r0 : Row (w.alloc (.cells #[.int .u8 0, .int .u64 0, .int .u64 0] 61)) w.heap.size 61 #[.int .u8 0, .int .u64 0, .int .u64 0] := row_new rfl
  have HF : Hid (w.heap.size ∉ Foot q b A) := fun e => by have := h.1.foot _ e; omega
  have h1 : Hq (w.alloc (.cells #[.int .u8 0, .int .u64 0, .int .u64 0] 61)) q b A (n + 1) c l := ⟨h.1.keep (below_new _ _), h.2⟩
  have k1 := kept_alloc (Foot q b A) w (.cells #[.int .u8 0, .int .u64 0, .int .u64 0] 61)
  obtain ⟨x, hxe⟩ : ∃ x, ix l i = x := ⟨_, rfl⟩
  have RM := veil (remove_any h1 i hi)
  rw [hxe] at HX RM ⊢
  simp only [tv] at RM
  have R0 := veil r0
  have K1 := veil k1
  clear h hx h1 r0 k1 hl hxe
  obtain ⟨r, hr⟩ : ∃ r, w.heap.size = r := ⟨_, rfl⟩
  go_enter Try.func24, Try.ntmps24
  go_wp2_with fail
  rw [hr] at R0 HF
  have HW := veil (Nat.le_of_eq hr)
  clear hr
  generalize w.alloc (.cells #[.int .u8 0, .int .u64 0, .int .u64 0] 61) = w0 at *
  refine (RM.out).mono ?_
  rintro e w1 ⟨rfl, l1, f, h1, h2, h3, h4, h5⟩
  have H1 := veil h1
  have H2 := veil h2
  have H3 := veil h3
  have H4 := veil h4
  have K2 := veil (K1.out.trans' h5)
  have R1 := veil (row_kept R0.out h5 HF.out)
  have HF1 : Hid (w1.heap.size ∉ Foot q b A) := fun e => by have := h1.foot _ e; omega
  clear h1 h2 h3 h4 h5 RM R0 K1 w0
  have b0 := box_new (w := w1) (x := x) (T := 61) rfl
  have H1b := veil (H1.out.keep (below_new w1 (.cells #[.int .u8 x.k.kd, .int .u64 x.k.id, .int .u64 x.t] 61)))
  have R1b := veil (R1.out.keep (below_new w1 (.cells #[.int .u8 x.k.kd, .int .u64 x.k.id, .int .u64 x.t] 61)))
  have K2b := veil (K2.out.trans' (kept_alloc _ w1 (.cells #[.int .u8 x.k.kd, .int .u64 x.k.id, .int .u64 x.t] 61)))
  have B0 := veil b0
  have hr1 : Hid (r ≠ w1.heap.size) := by show _ ≠ _; have := R1.out.lt; omega
  clear H1 R1 K2 b0
  obtain ⟨s, hs⟩ : ∃ s, w1.heap.size = s := ⟨_, rfl⟩
  have ta := assert_any
  go_wp2_with fail
  clear ta
  rw [hs] at B0 HF1 hr1
  clear hs
  generalize w1.alloc (.cells #[.int .u8 x.k.kd, .int .u64 x.k.id, .int .u64 x.t] 61) = w2 at *
  have c1 : w2.cell? ⟨q, 1, none⟩ = some (.map (some b)) := H1b.out.row.cell 1
  have i0 := B0.out.1
  have i1 := B0.out.2.1
  obtain ⟨w3, hrun, m3, g3⟩ := (H1b.out.mp.kept (kept_drew [] w2) (by simp)).drop HX.out.k (0 : Nat)
  have k3 : Kept [b] w2 w3 := (kept_drew [b] w2).trans' (kept_gb g3 (by simp))
  have hb : b ∈ Foot q b A := by simp [Foot]
  have R3 := veil (row_kept R1b.out k3 (by simp; rintro rfl; exact HF.out hb))
  have j0 : w3.cell? ⟨s, 0, none⟩ = some (.int .u8 x.k.kd) := cell_kept B0.out.1 k3 (by simp; rintro rfl; exact HF1.out hb)
  have j1 : w3.cell? ⟨s, 1, none⟩ = some (.int .u64 x.k.id) := cell_kept B0.out.2.1 k3 (by simp; rintro rfl; exact HF1.out hb)
  have j2 : w3.cell? ⟨s, 2, none⟩ = some (.int .u64 x.t) := cell_kept B0.out.2.2 k3 (by simp; rintro rfl; exact HF1.out hb)
  have Z : Hid (Taken w w3 q b A n c l x.k) := by
    refine ⟨l1, ⟨⟨_, ⟨row_kept H1b.out.row k3 (by simp; exact fun e => H1b.out.mp.ne H1b.out.row e.symm), H1b.out.ls.kept k3 (fun z hz => ?_), H1b.out.len, m3, H1b.out.ok, H1b.out.lim⟩, pl_pop H2.out⟩, H3.out⟩, gone_pop H2.out H4.out, K2b.out.trans' (k3.mono (by simp [Foot]))⟩
    simp only [List.mem_singleton]
    rintro rfl
    rcases H1b.out.ls.row with ⟨e, _⟩ | ⟨g, cap, rest, e, hr, _⟩
    · injection e with e; subst e; simp [Value.ownBlock] at hz
    · injection e with e; subst e; simp [Value.ownBlock] at hz; exact H1b.out.mp.ne hr hz.symm
  have U := veil hrun
  have J := veil (And.intro j0 (And.intro j1 j2))
  clear hrun m3 g3 k3 hb j0 j1 j2
  go_still_tail 6, (by kernel_rfl)
  change wpList _ _ _ _ _ w2.drew
  clear c1 i0 i1
  have j0 := J.out.1
  have j1 := J.out.2.1
  have j2 := J.out.2.2
  have r0 : w3.cell? ⟨r, 0, none⟩ = some (.int .u8 0) := R3.out.cell 0
  have r1 : w3.cell? ⟨r, 1, none⟩ = some (.int .u64 0) := R3.out.cell 1
  have r2 : w3.cell? ⟨r, 2, none⟩ = some (.int .u64 0) := R3.out.cell 2
  have s0 : w3.frozen? ⟨r, 0, none⟩ = false := R3.out.frozen 0
  have s1 : w3.frozen? ⟨r, 1, none⟩ = false := R3.out.frozen 1
  have s2 : w3.frozen? ⟨r, 2, none⟩ = false := R3.out.frozen 2
  go_wp2_with (first | (refine wpList_delete_w rfl (.tmp 14) (.tmp 16) rfl rfl rfl U.out ?_))
  have R4 := ((R3.out.set 0 (.int .u8 x.k.kd)).set 1 (.int .u64 x.k.id)).set 2 (.int .u64 x.t)
  have K4 : Kept [r] w3 (((w3.setCell ⟨r, 0, none⟩ (.int .u8 x.k.kd)).setCell ⟨r, 1, none⟩ (.int .u64 x.k.id)).setCell ⟨r, 2, none⟩ (.int .u64 x.t)) := ((kept_set (by simp)).trans' (kept_set (by simp))).trans' (kept_set (by simp))
  refine bodyPost_ret (results_cell_row rfl _ _ r _ _ (0, 0) _ rfl R4 Try.underlying61 rfl (by kernel_rfl)) rfl ?_
  exact ⟨rfl, Z.out.more K4 HF.out HW.out⟩

end Go.Proofs.Ytkjgmimfnmilfaa.Tm5
