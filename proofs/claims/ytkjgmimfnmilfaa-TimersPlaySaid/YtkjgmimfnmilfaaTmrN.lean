/-
  What the reference's Arm does.
  Conditions: at most 256 timers.
-/
import Derived.Test.YtkjgmimfnmilfaaTmrJ
namespace Go.Proofs.Ytkjgmimfnmilfaa.Tm5
open Go.RowKit Go.Proofs.Ytkjgmimfnmilfaa.Ops

theorem put_set {L : List Tm} {x : Tm} {i : Nat} (hk : Kn L) (h : Lies L x.k (some i)) : put L x = L.set i x := by
  have hh : has L x.k = true := by rw [lies_has h]; rfl
  unfold put
  rw [if_pos hh]
  apply List.ext_getElem
  · simp
  · intro c h1 h2
    have hc : c < L.length := by simpa using h1
    rw [List.getElem_map, List.getElem_set, ← ix_eq hc]
    unfold rep
    by_cases e : i = c
    · subst e
      rw [if_pos (sameK_iff.2 h.2), if_pos rfl]
    · rw [if_neg e, if_neg]
      intro q
      exact e (hk.inj h.1 hc (by rw [h.2]; exact (sameK_iff.1 q).symm))
theorem del_erase {L : List Tm} {k : Tk} {i : Nat} (hk : Kn L) (h : Lies L k (some i)) : del L k = L.take i ++ L.drop (i + 1) := by
  have e : L = L.take i ++ (ix L i :: L.drop (i + 1)) := by
    rw [ix_eq h.1, List.getElem_cons_drop, List.take_append_drop]
  have hk' := hk
  unfold Kn at hk'
  rw [e, List.pairwise_append] at hk'
  obtain ⟨_, h2, h3⟩ := hk'
  have h4 := (List.pairwise_cons.1 h2).1
  have e1 : (L.take i).filter (fun y => !sameK y.k k) = L.take i := by
    rw [List.filter_eq_self]
    intro y hy
    have := h3 y hy (ix L i) (by simp)
    rw [h.2] at this
    simp [sameK_no, this]
  have e2 : (L.drop (i + 1)).filter (fun y => !sameK y.k k) = L.drop (i + 1) := by
    rw [List.filter_eq_self]
    intro y hy
    have := h4 y hy
    rw [h.2] at this
    simp [sameK_no, this.symm]
  have e3 : (!sameK (ix L i).k k) = false := by simp [sameK_iff.2 h.2]
  unfold del
  conv => lhs; rw [e]
  rw [List.filter_append, List.filter_cons, if_neg (by simp [e3]), e1, e2]

/-- the reference's set in memory; G: its blocks -/
def Rs (w : World) (r : Nat) (G : List Nat) (L : List Tm) : Prop := ∃ A n c, G = Rfoot r A ∧ Rf w r A n c L
def Ru (w w' : World) (r : Nat) (G : List Nat) (L : List Tm) : Prop := ∃ G', Rs w' r G' L ∧ Kept G w w' ∧ ∀ z ∈ G', z ∈ G ∨ w.heap.size ≤ z
theorem Rs.keep {w w' : World} {r : Nat} {G : List Nat} {L : List Tm} (h : Rs w r G L) (k : Below w.heap.size w w') : Rs w' r G L := by
  obtain ⟨A, n, c, e, h⟩ := h
  exact ⟨A, n, c, e, h.keep k⟩
theorem Rs.kept {w w' : World} {r : Nat} {G F : List Nat} {L : List Tm} (h : Rs w r G L) (k : Kept F w w') (hF : ∀ x ∈ G, x ∉ F) : Rs w' r G L := by
  obtain ⟨A, n, c, rfl, h⟩ := h
  exact ⟨A, n, c, rfl, h.kept k hF⟩
theorem Rs.lt {w : World} {r : Nat} {G : List Nat} {L : List Tm} (h : Rs w r G L) : ∀ z ∈ G, z < w.heap.size := by
  obtain ⟨A, n, c, rfl, h⟩ := h
  exact h.lt
theorem Ru.same {w w' : World} {r : Nat} {G : List Nat} {L : List Tm} (h : Rs w r G L) (k : Below w.heap.size w w') : Ru w w' r G L := ⟨G, h.keep k, kept_below k, fun _ hz => .inl hz⟩
theorem Ru.after {w w1 w2 : World} {r : Nat} {G : List Nat} {L : List Tm} (h : Ru w1 w2 r G L) (k : Below w.heap.size w w1) : Ru w w2 r G L := by
  obtain ⟨G', h1, h2, h3⟩ := h
  exact ⟨G', h1, (kept_below k).trans' h2, fun z hz => (h3 z hz).imp id (fun q => Nat.le_trans k.size q)⟩

theorem rset {w : World} {r g : Nat} {n c i : Nat} {L : List Tm} {k : Tk} {t : Int} (h : Rf w r (some ⟨g, 0, none⟩) n c L) (hl : Lies L k (some i)) (hx : Tm.ok ⟨k, t⟩) : Ru w (w.setCell ⟨g, i * 3 + 2, none⟩ (.int .u64 t)) r (Rfoot r (some ⟨g, 0, none⟩)) (put L ⟨k, t⟩) := by
  have hn : 0 < n := by have := hl.1; have := h.len; omega
  have hi := hl.1
  obtain ⟨g', rest, hg', hr, hc1, hc2, hc3, hgr⟩ := h.at0 hn
  injection hg' with hg'
  injection hg' with hg'
  subst hg'
  have r1 := hr.set (i * 3 + 2) (.int .u64 t)
  rw [List.setIfInBounds_toArray, cv_set1 hi, hl.2, ← put_set (x := ⟨k, t⟩) h.kn hl] at r1
  have k1 : Kept [g] w (w.setCell ⟨g, i * 3 + 2, none⟩ (.int .u64 t)) := kept_set (by simp)
  have hlen1 : (put L ⟨k, t⟩).length = n := by rw [put_len_old (by rw [lies_has hl]; rfl)]; exact h.len
  have ls1 := ls_mk r1 (cap := c) (by rw [hlen1]; exact hc1) hc2 (by rw [← hc3]; simp [cv_length, hlen1, h.len])
  rw [hlen1] at ls1
  refine ⟨_, ⟨some ⟨g, 0, none⟩, n, c, rfl, ⟨row_kept h.row k1 (by simp; omega), ls1, hlen1, h.lim, fun y hy => ?_, kn_put h.kn⟩⟩, k1.mono (by simp [Rfoot]), fun _ hz => .inl hz⟩
  rcases (mem_put y).1 hy with rfl | ⟨hy, _⟩
  · exact hx
  · exact h.ok y hy

theorem rarm_old {w : World} {r : Nat} {G : List Nat} {L : List Tm} (h : Rs w r G L) (x : Tm) (hx : x.ok) (i : Nat) (ho : Lies L x.k (some i)) :
    Calls Try.prog 19 #[.pointer (some ⟨r, 0, none⟩), .agg #[.int .u8 x.k.kd, .int .u64 x.k.id], .int .u64 x.t] w fun e w' => e = .returned (.int .i64 0) ∧ Ru w w' r G (put L x) := by
  obtain ⟨A, n, c, rfl, h⟩ := h
  have H1 := veil (h.keep (below_new w (.cells #[.int .u8 x.k.kd, .int .u64 x.k.id] 33)))
  have HB := veil (below_new w (.cells #[.int .u8 x.k.kd, .int .u64 x.k.id] 33))
  have kb := kb_new w x.k
  have HO := veil ho
  have hlim := h.lim
  have hin : i < n := by have := ho.1; have := h.len; omega
  have HL := veil h.len
  have HX := veil hx
  obtain ⟨g0, hg⟩ : ∃ g, w.heap.size = g := ⟨_, rfl⟩
  rw [hg] at kb
  have k0 := kb.1
  have k1 := kb.2
  clear h ho hx kb
  go_enter Try.func19, Try.ntmps19
  go_wp2_with fail
  clear hg k0 k1
  generalize w.alloc (.cells #[.int .u8 x.k.kd, .int .u64 x.k.id] 33) = w1 at *
  refine (where_any H1.out x.k HX.out.k (some i) HO.out).mono ?_
  unfold wi
  rintro e w2 ⟨rfl, h2⟩
  have R1 := veil (H1.out.keep h2)
  have HB2 := veil (HB.out.trans (h2.mono HB.out.size))
  clear h2 H1 HB
  have c0 : w2.cell? ⟨r, 0, none⟩ = some (.slice A n c) := R1.out.row.cell 0
  obtain ⟨g, rest, rfl, hr, _⟩ := R1.out.at0 (by omega)
  have i2 : w2.cell? ⟨g, i * 3 + 2, none⟩ = some (.int .u64 (ix L i).t) := cell_get hr (by rw [HL.out]; exact hin) 2 (by omega)
  have f2 : w2.frozen? ⟨g, i * 3 + 2, none⟩ = false := hr.frozen _
  have Z := veil ((rset R1.out HO.out (t := x.t) HX.out).after HB2.out)
  clear hr R1
  go_wp2_with fail
  go_ret
  exact ⟨rfl, Z.out⟩

theorem rarm_full {w : World} {r : Nat} {G : List Nat} {L : List Tm} (h : Rs w r G L) (k : Tk) (t : Int) (hk : k.ok) (ho : Lies L k none) (hf : L.length = 256) :
    Calls Try.prog 19 #[.pointer (some ⟨r, 0, none⟩), .agg #[.int .u8 k.kd, .int .u64 k.id], .int .u64 t] w fun e w' => e = .returned (.int .i64 3) ∧ Below w.heap.size w w' := by
  obtain ⟨A, n, c, rfl, h⟩ := h
  have H1 := veil (h.keep (below_new w (.cells #[.int .u8 k.kd, .int .u64 k.id] 33)))
  have HB := veil (below_new w (.cells #[.int .u8 k.kd, .int .u64 k.id] 33))
  have kb := kb_new w k
  have HO := veil ho
  have hn : n = 256 := by have := h.len; omega
  subst hn
  obtain ⟨g0, hg⟩ : ∃ g, w.heap.size = g := ⟨_, rfl⟩
  rw [hg] at kb
  have k0 := kb.1
  have k1 := kb.2
  clear h ho kb hf
  go_enter Try.func19, Try.ntmps19
  go_wp2_with fail
  clear hg k0 k1
  generalize w.alloc (.cells #[.int .u8 k.kd, .int .u64 k.id] 33) = w1 at *
  refine (where_any H1.out k hk none HO.out).mono ?_
  unfold wi
  rintro e w2 ⟨rfl, h2⟩
  have R1 := veil (H1.out.keep h2)
  have HB2 := veil (HB.out.trans (h2.mono HB.out.size))
  clear h2 H1 HB
  have c0 : w2.cell? ⟨r, 0, none⟩ = some (.slice A 256 c) := R1.out.row.cell 0
  clear R1
  go_wp2_with fail
  go_ret
  exact ⟨rfl, HB2.out⟩

set_option maxRecDepth 100000 in
set_option maxHeartbeats 2000000 in
theorem rarm_new {w : World} {r : Nat} {G : List Nat} {L : List Tm} (h : Rs w r G L) (x : Tm) (hx : x.ok) (ho : Lies L x.k none) (hf : L.length < 256) :
    Calls Try.prog 19 #[.pointer (some ⟨r, 0, none⟩), .agg #[.int .u8 x.k.kd, .int .u64 x.k.id], .int .u64 x.t] w fun e w' => e = .returned (.int .i64 0) ∧ Ru w w' r G (put L x) := by
  obtain ⟨A, n, c, rfl, h⟩ := h
  have H1 := veil (h.keep (below_new w (.cells #[.int .u8 x.k.kd, .int .u64 x.k.id] 33)))
  have HB := veil (below_new w (.cells #[.int .u8 x.k.kd, .int .u64 x.k.id] 33))
  have kb := kb_new w x.k
  have HO := veil ho
  have hn6 : n < 256 := by have := h.len; omega
  have HL := veil h.len
  have HX := veil hx
  obtain ⟨g0, hg⟩ : ∃ g, w.heap.size = g := ⟨_, rfl⟩
  rw [hg] at kb
  have KB := veil kb
  have k0 := kb.1
  have k1 := kb.2
  clear h ho hx kb hf
  go_enter Try.func19, Try.ntmps19
  go_wp2_with fail
  clear hg k0 k1
  generalize w.alloc (.cells #[.int .u8 x.k.kd, .int .u64 x.k.id] 33) = w1 at *
  refine (where_any H1.out x.k HX.out.k none HO.out).mono ?_
  unfold wi
  rintro e w2 ⟨rfl, h2⟩
  have R1 := veil (H1.out.keep h2)
  have KB2 := veil (KB.out.keep h2)
  have HB2 := veil (HB.out.trans (h2.mono HB.out.size))
  clear h2 H1 HB KB
  have c0 : w2.cell? ⟨r, 0, none⟩ = some (.slice A n c) := R1.out.row.cell 0
  have hn7 : (n : Int) < 256 := by omega
  have HN := veil hn6
  clear hn6
  go_wp2_with fail
  have k0 := KB2.out.1
  have k1 := KB2.out.2
  have rn : Row (w2.drew.alloc (.cells #[.int .u8 x.k.kd, .int .u64 x.k.id, .int .u64 x.t] 69)) w2.heap.size 69 #[.int .u8 x.k.kd, .int .u64 x.k.id, .int .u64 x.t] := row_new rfl
  have kA : Kept [] w2 (w2.drew.alloc (.cells #[.int .u8 x.k.kd, .int .u64 x.k.id, .int .u64 x.t] 69)) := (kept_drew _ w2).trans' (kept_alloc _ _ _)
  have rA := R1.out.kept kA (by simp)
  obtain ⟨v', w3, hrun, hls, hgr, hloc⟩ := run_more Try.underlying27 info_r (w2.drew.alloc (.cells #[.int .u8 x.k.kd, .int .u64 x.k.id, .int .u64 x.t] 69)) 27 (.slice A n c) L [x]
    rA.ls ⟨w2.heap.size, 0, none⟩ 1 (fun j u hu => by
      have hadd : (⟨w2.heap.size, 0, none⟩ : Addr).add j = ⟨w2.heap.size, j, none⟩ := by unfold Addr.add; split <;> simp_all
      rw [hadd, rn.cell]
      simpa [cv, tv] using hu) (by simp; rw [HL.out]; have := HN.out; omega)
  obtain ⟨A', c', rfl, _⟩ := hls.slice
  have hl1 : (L ++ [x]).length = n + 1 := by simp [HL.out]
  rw [hl1] at hls hrun hloc
  have hpn : put L x = L ++ [x] := put_new (by rw [lies_has HO.out]; rfl)
  have hrA : ∀ z, (Value.slice A n c).ownBlock = some z → z ≠ r := by
    rintro z hz rfl
    rcases rA.ls.row with ⟨e, _⟩ | ⟨g, cap, rest, e, hr, _⟩
    · injection e with e; subst e; simp [Value.ownBlock] at hz
    · injection e with e; subst e; simp [Value.ownBlock] at hz; exact row_ne hr rA.row (by decide) hz
  have rq3 : Row w3 r 29 #[.slice A n c] := rA.row.gb hgr (fun e => hrA r e.symm rfl)
  have kB : Kept (Rfoot r A) w2 w3 := (kA.mono (by simp)).trans' (kept_gbo hgr (fun z hz => by cases A <;> simp [Value.ownBlock] at hz; simp [Rfoot, hz]))
  have bl : ∀ z, (Value.slice A' (n + 1) c').ownBlock = some z → z ≠ r := by
    rintro z hz rfl
    rcases hls.row with ⟨e, _⟩ | ⟨g, cap, rest, e, hr, _⟩
    · injection e with e; subst e; simp [Value.ownBlock] at hz
    · injection e with e; subst e; simp [Value.ownBlock] at hz; exact row_ne hr rq3 (by decide) hz
  have r4 := rq3.set 0 (.slice A' (n + 1) c')
  have k4 : Kept [r] w3 (w3.setCell ⟨r, 0, none⟩ (.slice A' (n + 1) c')) := kept_set (by simp)
  have Z := veil (show Ru w (w3.setCell ⟨r, 0, none⟩ (.slice A' (n + 1) c')) r (Rfoot r A) (put L x) from by
    rw [hpn]
    refine Ru.after ⟨Rfoot r A', ⟨A', n + 1, c', rfl, ⟨r4, hls.kept k4 (fun z hz => by simp; exact bl z hz), hl1, by have := HN.out; omega, ?_, by rw [← hpn]; exact kn_put R1.out.kn⟩⟩, kB.trans' (k4.mono (by simp [Rfoot])), ?_⟩ HB2.out
    · intro z hz
      rcases List.mem_append.1 hz with hz | hz
      · exact R1.out.ok z hz
      · simp at hz; subst hz; exact HX.out
    · intro z hz
      simp only [Rfoot, List.mem_cons, Option.mem_toList] at hz ⊢
      rcases hz with rfl | hz
      · exact .inl (.inl rfl)
      · cases A' with
        | none => simp at hz
        | some a' =>
          simp at hz
          subst hz
          rcases hloc with e | e
          · simp only [Value.ownBlock] at e
            cases A with
            | none => simp at e
            | some a => simp at e; exact .inl (.inr (by simp [e]))
          · simp only [Value.ownBlock] at e
            simp at e
            exact .inr (by omega))
  have HR := veil hrun
  have c0' : (w2.alloc (.cells #[.int .u8 x.k.kd, .int .u64 x.k.id, .int .u64 x.t] 69)).cell? ⟨r, 0, none⟩ = some (.slice A n c) := rA.row.cell 0
  have d0 : w3.cell? ⟨r, 0, none⟩ = some (.slice A n c) := rq3.cell 0
  have d1 : w3.frozen? ⟨r, 0, none⟩ = false := rq3.frozen 0
  clear hrun hls hgr hloc hl1 kA kB hrA rA rq3 r4 k4 bl rn hpn R1 KB2 HB2
  go_region_law (refine step_append_of rfl (.tmp 31) (.tmp 35) rfl rfl rfl HR.out ?_)
  all_goals
    clear c0 c0' d0 d1 k0 k1 HR
    go_wp2_with fail
    go_ret
    exact ⟨rfl, Z.out⟩

end Go.Proofs.Ytkjgmimfnmilfaa.Tm5
