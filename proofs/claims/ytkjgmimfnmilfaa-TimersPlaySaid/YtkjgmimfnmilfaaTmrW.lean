/-
  What a set's Arm does, and New.
  Conditions: at most 256 timers.
-/
import Derived.Test.YtkjgmimfnmilfaaTmrV
namespace Go.Proofs.Ytkjgmimfnmilfaa.Tm5
open Go.RowKit Go.Proofs.Ytkjgmimfnmilfaa.Ops

theorem arm_void {w : World} {p : Option Addr} (h : Void w p) (k : Tk) (t : Int) :
    Calls Try.prog 14 #[.pointer p, .agg #[.int .u8 k.kd, .int .u64 k.id], .int .u64 t] w fun e w' => e = .returned (.int .i64 2) ∧ Below w.heap.size w w' := by
  have H1 := veil (h.keep (below_new w (.cells #[.int .u8 k.kd, .int .u64 k.id] 33)))
  have HB := veil (below_new w (.cells #[.int .u8 k.kd, .int .u64 k.id] 33))
  clear h
  go_enter Try.func14, Try.ntmps14
  go_wp2_with fail
  generalize w.alloc (.cells #[.int .u8 k.kd, .int .u64 k.id] 33) = w1 at *
  refine (missing_void H1.out).mono ?_
  rintro e w2 ⟨rfl, rfl⟩
  go_wp2_with fail
  go_ret
  exact ⟨rfl, HB.out⟩

def Arms (w : World) (s : Nat) (F : List Nat) (l : List Tm) (x : Tm) (w' : World) : Prop := ∃ l', Turn w w' s F l' ∧ Armed l l' x

theorem arm_old {w : World} {s : Nat} {F : List Nat} {l : List Tm} (h : Ts w s F l) (x y : Tm) (hk : x.ok) (hy : y ∈ l) (hxy : y.k = x.k) :
    Calls Try.prog 14 #[.pointer (some ⟨s, 0, none⟩), .agg #[.int .u8 x.k.kd, .int .u64 x.k.id], .int .u64 x.t] w fun e w' => e = .returned (.int .i64 0) ∧ Arms w s F l x w' := by
  obtain ⟨q, b, A, n, c, rfl, h⟩ := h
  obtain ⟨i, hi, rfl⟩ := mem_ix.1 hy
  have hl := h.hq.1.len
  have hlim := h.hq.1.lim
  have H1 := veil (h.keep (below_new w (.cells #[.int .u8 x.k.kd, .int .u64 x.k.id] 33)))
  have HB := veil (below_new w (.cells #[.int .u8 x.k.kd, .int .u64 x.k.id] 33))
  have kb := kb_new w x.k
  have HL : Hid (Lies l x.k (some i)) := ⟨hi, hxy⟩
  have hin : i < n := by omega
  have HX := veil hk
  have HE := veil hxy
  obtain ⟨g, hg⟩ : ∃ g, w.heap.size = g := ⟨_, rfl⟩
  rw [hg] at kb
  have KB := veil kb
  clear h hy hi hl hk hxy kb
  go_enter Try.func14, Try.ntmps14
  go_wp2_with fail
  clear hg
  generalize w.alloc (.cells #[.int .u8 x.k.kd, .int .u64 x.k.id] 33) = w1 at *
  refine (missing_no H1.out.row).mono ?_
  rintro e w2 ⟨rfl, rfl⟩
  have k0 := KB.out.1
  have k1 := KB.out.2
  go_wp2_with fail
  clear k0 k1
  refine (find_yes H1.out x.k HX.out.k i HL.out).mono ?_
  rintro e w2 ⟨rfl, h2⟩
  have H2 := veil (H1.out.keep h2)
  have HB2 := veil (HB.out.trans (h2.mono HB.out.size))
  clear h2 H1 HB KB
  have c0 : w2.cell? ⟨s, 0, none⟩ = some (.pointer (some ⟨q, 0, none⟩)) := H2.out.row.cell 0
  go_wp2_with fail
  refine (move_any H2.out.hq i hin x.t ⟨HX.out.c0, HX.out.c1⟩).mono ?_
  rintro e w3 ⟨rfl, l', h1, h2, h3⟩
  rw [HE.out] at h2
  have Z : Hid (Arms w s (s :: Foot q b A) l x w3) := ⟨l', (turn_of H2.out h1 h3 (fun _ hz => .inl hz)).after (kept_below HB2.out), h2⟩
  clear h1 h2 h3 c0
  go_wp2_with fail
  go_ret
  exact ⟨rfl, Z.out⟩

theorem arm_full {w : World} {s : Nat} {F : List Nat} {l : List Tm} (h : Ts w s F l) (k : Tk) (t : Int) (hk : k.ok) (hn : ∀ y ∈ l, y.k ≠ k) (hf : l.length = 256) :
    Calls Try.prog 14 #[.pointer (some ⟨s, 0, none⟩), .agg #[.int .u8 k.kd, .int .u64 k.id], .int .u64 t] w fun e w' => e = .returned (.int .i64 3) ∧ Below w.heap.size w w' := by
  have T1 := veil (h.keep (below_new w (.cells #[.int .u8 k.kd, .int .u64 k.id] 33)))
  obtain ⟨q, b, A, n, c, rfl, h⟩ := h
  have H1 := veil (h.keep (below_new w (.cells #[.int .u8 k.kd, .int .u64 k.id] 33)))
  have HB := veil (below_new w (.cells #[.int .u8 k.kd, .int .u64 k.id] 33))
  have kb := kb_new w k
  have HL : Hid (Lies l k none) := hn
  have HF := veil hf
  obtain ⟨g, hg⟩ : ∃ g, w.heap.size = g := ⟨_, rfl⟩
  rw [hg] at kb
  have KB := veil kb
  clear h hn hf kb
  go_enter Try.func14, Try.ntmps14
  go_wp2_with fail
  clear hg
  generalize w.alloc (.cells #[.int .u8 k.kd, .int .u64 k.id] 33) = w1 at *
  refine (missing_no H1.out.row).mono ?_
  rintro e w2 ⟨rfl, rfl⟩
  have k0 := KB.out.1
  have k1 := KB.out.2
  go_wp2_with fail
  clear k0 k1
  refine (find_no H1.out k hk HL.out).mono ?_
  rintro e w2 ⟨rfl, h2⟩
  have T2 := veil (T1.out.keep h2)
  have HB2 := veil (HB.out.trans (h2.mono HB.out.size))
  clear h2 H1 HB KB T1
  go_wp2_with fail
  refine (tlen T2.out 256 HF.out).mono ?_
  rintro e w3 ⟨rfl, rfl⟩
  go_wp2_with fail
  go_ret
  exact ⟨rfl, HB2.out⟩

theorem pushed_turn {w w1 w2 : World} {s q b : Nat} {A : Option Addr} {n c : Nat} {l : List Tm} {x : Tm} (h : Ss w1 s q b A n c l) (hp : Pushed w1 w2 q b A n l x) (hn : ∀ y ∈ l, y.k ≠ x.k) (k : Below w.heap.size w w1) : Arms w s (s :: Foot q b A) l x w2 := by
  obtain ⟨A', c', l', h1, h2, h3, h4⟩ := hp
  refine ⟨l', (turn_of h h1 h3 h4).after (kept_below k), fun y => ?_⟩
  rw [h2 y]
  exact ⟨fun q => q.imp id (fun q => ⟨q, hn y q⟩), fun q => q.imp id (fun q => q.1)⟩

set_option maxRecDepth 100000 in
set_option maxHeartbeats 1000000 in
theorem arm_new {w : World} {s : Nat} {F : List Nat} {l : List Tm} (h : Ts w s F l) (x : Tm) (hk : x.ok) (hn : ∀ y ∈ l, y.k ≠ x.k) (hf : l.length < 256) :
    Calls Try.prog 14 #[.pointer (some ⟨s, 0, none⟩), .agg #[.int .u8 x.k.kd, .int .u64 x.k.id], .int .u64 x.t] w fun e w' => e = .returned (.int .i64 0) ∧ Arms w s F l x w' := by
  obtain ⟨q, b, A, n, c, rfl, h⟩ := h
  have hl := h.hq.1.len
  have hn6 : n < 256 := by omega
  have H1 := veil (h.keep (below_new w (.cells #[.int .u8 x.k.kd, .int .u64 x.k.id] 33)))
  have HB := veil (below_new w (.cells #[.int .u8 x.k.kd, .int .u64 x.k.id] 33))
  have kb := kb_new w x.k
  have HL : Hid (Lies l x.k none) := hn
  have HX := veil hk
  obtain ⟨g, hg⟩ : ∃ g, w.heap.size = g := ⟨_, rfl⟩
  rw [hg] at kb
  have KB := veil kb
  clear h hn hl hk hf kb
  go_enter Try.func14, Try.ntmps14
  go_wp2_with fail
  clear hg
  generalize w.alloc (.cells #[.int .u8 x.k.kd, .int .u64 x.k.id] 33) = w1 at *
  refine (missing_no H1.out.row).mono ?_
  rintro e w2 ⟨rfl, rfl⟩
  have k0 := KB.out.1
  have k1 := KB.out.2
  go_wp2_with fail
  clear k0 k1
  refine (find_no H1.out x.k HX.out.k HL.out).mono ?_
  rintro e w2 ⟨rfl, h2⟩
  have H2 := veil (H1.out.keep h2)
  have KB2 := veil (KB.out.keep h2)
  have HB2 := veil (HB.out.trans (h2.mono HB.out.size))
  clear h2 H1 HB KB
  go_wp2_with fail
  refine (len_any H2.out).mono ?_
  rintro e w3 ⟨rfl, rfl⟩
  have hn7 : (n : Int) < 256 := by omega
  have HN := veil hn6
  clear hn6
  go_wp2_with fail
  have c0 : w2.cell? ⟨s, 0, none⟩ = some (.pointer (some ⟨q, 0, none⟩)) := H2.out.row.cell 0
  have k0 := KB2.out.1
  have k1 := KB2.out.2
  have H3 : Hid (Ss w2.drew s q b A n c l) := H2.out.kept (kept_drew [] w2) (by simp) (by simp)
  have HB3 : Hid (Below w.heap.size w w2.drew) := below_still HB2.out ⟨1, rfl⟩
  clear H2 HB2 KB2
  go_still_tail 9, (by kernel_rfl)
  change wpList _ _ _ _ _ w2.drew
  generalize w2.drew = w3 at *
  clear c0 k0 k1
  go_wp2_with fail
  refine (hpush_any (x := x) H3.out.hq HX.out HN.out HL.out).mono ?_
  rintro e w4 ⟨rfl, hp⟩
  have Z := veil (pushed_turn H3.out hp HL.out HB3.out)
  clear hp
  go_wp2_with fail
  go_ret
  exact ⟨rfl, Z.out⟩

theorem qu_new (w : World) : ∃ F, Ts (((w.alloc (.map #[] 0)).alloc (.cells #[.slice none 0 0, .map (some w.heap.size)] 59)).alloc (.cells #[.pointer (some ⟨w.heap.size + 1, 0, none⟩)] 40)) (w.heap.size + 2) F [] ∧ ∀ z ∈ F, w.heap.size ≤ z := by
  have m0 := mp_new w
  have m1 := m0.kept (F := []) (kept_alloc [] _ (.cells #[.slice none 0 0, .map (some w.heap.size)] 59)) (by simp)
  have r1 : Row ((w.alloc (.map #[] 0)).alloc (.cells #[.slice none 0 0, .map (some w.heap.size)] 59)) (w.heap.size + 1) 59 #[.slice none 0 0, .map (some w.heap.size)] := row_new (by simp)
  have hq : Qs ((w.alloc (.map #[] 0)).alloc (.cells #[.slice none 0 0, .map (some w.heap.size)] 59)) (w.heap.size + 1) w.heap.size none 0 0 [] := ⟨_, ⟨r1, ls_nil _ _, rfl, m1, by simp, by omega⟩, pl_nil⟩
  refine ⟨_, ⟨w.heap.size + 1, w.heap.size, none, 0, 0, rfl, ⟨row_new (by simp), hq.keep (below_new _ _), fun c _ hc => by omega⟩⟩, ?_⟩
  simp [Foot]

def Newly (w w' : World) (s : Nat) : Prop := (∃ F, Ts w' s F [] ∧ ∀ z ∈ F, w.heap.size ≤ z) ∧ Below w.heap.size w w' ∧ w.heap.size ≤ s
theorem new_any (w : World) : Calls Try.prog 8 #[] w fun e w' => e = .returned (.pointer (some ⟨w.heap.size + 2, 0, none⟩)) ∧ Newly w w' (w.heap.size + 2) := by
  have Z : Hid (Newly w (((w.alloc (.map #[] 0)).alloc (.cells #[.slice none 0 0, .map (some w.heap.size)] 59)).alloc (.cells #[.pointer (some ⟨w.heap.size + 1, 0, none⟩)] 40)) (w.heap.size + 2)) :=
    ⟨qu_new w, (((Below.refl _ w).alloc (Nat.le_refl _) _).alloc (by simp) _).alloc (by simp; omega) _, by omega⟩
  have hmm := @run_makeMap Try.prog
  go_enter Try.func8, Try.ntmps8
  go_wp2_with fail
  clear hmm
  go_ret
  exact ⟨rfl, Z.out⟩

end Go.Proofs.Ytkjgmimfnmilfaa.Tm5
