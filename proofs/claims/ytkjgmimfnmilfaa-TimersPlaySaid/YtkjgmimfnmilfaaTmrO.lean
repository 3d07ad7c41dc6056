/-
  What the reference's Cancel and Due do.
  Conditions: at most 256 timers.
-/
import Derived.Test.YtkjgmimfnmilfaaTmrN
namespace Go.Proofs.Ytkjgmimfnmilfaa.Tm5
open Go.RowKit Go.Proofs.Ytkjgmimfnmilfaa.Ops

theorem rcancel_no {w : World} {r : Nat} {G : List Nat} {L : List Tm} (h : Rs w r G L) (k : Tk) (hk : k.ok) (ho : Lies L k none) :
    Calls Try.prog 20 #[.pointer (some ⟨r, 0, none⟩), .agg #[.int .u8 k.kd, .int .u64 k.id]] w fun e w' => e = .returned (.bool false) ∧ Below w.heap.size w w' := by
  obtain ⟨A, n, c, rfl, h⟩ := h
  have H1 := veil (h.keep (below_new w (.cells #[.int .u8 k.kd, .int .u64 k.id] 33)))
  have HB := veil (below_new w (.cells #[.int .u8 k.kd, .int .u64 k.id] 33))
  have kb := kb_new w k
  have HO := veil ho
  obtain ⟨g0, hg⟩ : ∃ g, w.heap.size = g := ⟨_, rfl⟩
  rw [hg] at kb
  have k0 := kb.1
  have k1 := kb.2
  clear h ho kb
  go_enter Try.func20, Try.ntmps20
  go_wp2_with fail
  clear hg k0 k1
  generalize w.alloc (.cells #[.int .u8 k.kd, .int .u64 k.id] 33) = w1 at *
  refine (where_any H1.out k hk none HO.out).mono ?_
  unfold wi
  rintro e w2 ⟨rfl, h2⟩
  have HB2 := veil (HB.out.trans (h2.mono HB.out.size))
  clear h2 H1 HB
  go_wp2_with fail
  go_ret
  exact ⟨rfl, HB2.out⟩

/-- both appends of Cancel -/
theorem rcut {w : World} {r g : Nat} {n c i : Nat} {L : List Tm} {k : Tk} (h : Rf w r (some ⟨g, 0, none⟩) n c L) (hl : Lies L k (some i)) (q : Nat) (hq : q = (i + 1) * 3 ∨ n = i + 1) :
    ∃ A1 c1 w1 A2 n2 c2 w2, (Builtin.append_ #[27, 27] 27 #[.slice none 0 0, .slice (some ⟨g, 0, none⟩) i c]).run Try.prog w = .ok (.slice A1 i c1) w1 ∧
      (Builtin.append_ #[27, 27] 27 #[.slice A1 i c1, .slice (some ⟨g, q, none⟩) (n - (i + 1)) (c - (i + 1))]).run Try.prog w1 = .ok (.slice A2 n2 c2) w2 ∧
      Row w1 r 29 #[.slice (some ⟨g, 0, none⟩) n c] ∧ Row w2 r 29 #[.slice (some ⟨g, 0, none⟩) n c] ∧
      Ru w (w2.setCell ⟨r, 0, none⟩ (.slice A2 n2 c2)) r (Rfoot r (some ⟨g, 0, none⟩)) (del L k) := by
  have hn : 0 < n := by have := hl.1; have := h.len; omega
  have hi := hl.1
  have hlen := h.len
  have hlim := h.lim
  obtain ⟨g', rest, hg', hr, hc1, hc2, hc3, hgr⟩ := h.at0 hn
  injection hg' with hg'
  injection hg' with hg'
  subst hg'
  have hadd : ∀ o j, (⟨g, o, none⟩ : Addr).add j = ⟨g, o + j, none⟩ := fun o j => by unfold Addr.add; split <;> simp_all
  have lt1 : (L.take i).length = i := by simp; omega
  have ld1 : (L.drop (i + 1)).length = n - (i + 1) := by simp; omega
  have e : cv L = cv (L.take i) ++ (tv (ix L i) ++ cv (L.drop (i + 1))) := cv_split hi
  have tl := take_len hi
  obtain ⟨v1, w1, hrun1, hls1, hg1, hloc1⟩ := run_more Try.underlying27 info_r w 27 (.slice none 0 0) [] (L.take i) (ls_nil _ _) ⟨g, 0, none⟩ c (fun j u hu => by
    rw [hadd, hr.cell, List.getElem?_toArray, e, List.append_assoc, List.getElem?_append_left (by have := (List.getElem?_eq_some_iff.1 hu).1; omega)]
    rw [Nat.zero_add]
    exact hu) (by simp; omega)
  rw [lt1] at hrun1
  rw [List.nil_append] at hls1
  obtain ⟨A1, c1, rfl, _⟩ := hls1.slice
  rw [lt1] at hrun1 hls1 hloc1
  have k1 : Kept [] w w1 := kept_gbo hg1 (fun z hz => by simp [Value.ownBlock] at hz)
  have rr1 := row_kept h.row k1 (by simp)
  have hr1 := row_kept hr k1 (by simp)
  obtain ⟨v2, w2, hrun2, hls2, hg2, hloc2⟩ := run_more Try.underlying27 info_r w1 27 (.slice A1 i c1) (L.take i) (L.drop (i + 1)) hls1 ⟨g, q, none⟩ (c - (i + 1)) (fun j u hu => by
    have hq : q = (i + 1) * 3 := by
      rcases hq with hq | hq
      · exact hq
      · rw [List.drop_of_length_le (by omega)] at hu
        simp [cv] at hu
    subst hq
    rw [hadd, hr1.cell, List.getElem?_toArray, e, List.append_assoc, List.getElem?_append_right (by omega), tl, List.append_assoc, List.getElem?_append_right (by simp [tv]; omega), List.getElem?_append_left (by have := (List.getElem?_eq_some_iff.1 hu).1; simp [tv]; omega)]
    rw [← hu]
    congr 1
    simp [tv]
    omega) (by simp; omega)
  rw [ld1] at hrun2
  obtain ⟨A2, c2, rfl, _⟩ := hls2.slice
  rw [← del_erase h.kn hl] at hls2 hrun2 hloc2
  have b1 : ∀ z, (Value.slice A1 i c1).ownBlock = some z → z = w.heap.size := fun z hz => by
    rcases hloc1 with q | q
    · rw [hz] at q; simp [Value.ownBlock] at q
    · rw [hz] at q; injection q
  have hrl := h.row.lt
  have k2 : Kept (Value.slice A1 i c1).ownBlock.toList w1 w2 := kept_gbo hg2 (fun z hz => by simp [hz])
  have rr2 := row_kept rr1 k2 (fun e => by simp at e; have := b1 _ e; omega)
  have b2 : ∀ z, (Value.slice A2 (del L k).length c2).ownBlock = some z → w.heap.size ≤ z := fun z hz => by
    rcases hloc2 with q | q
    · rw [hz] at q; have := b1 z q.symm; omega
    · rw [hz] at q; injection q with q; have := k1.size; omega
  have k3 : Kept [r] w2 (w2.setCell ⟨r, 0, none⟩ (.slice A2 (del L k).length c2)) := kept_set (by simp)
  refine ⟨A1, c1, w1, A2, (del L k).length, c2, w2, hrun1, hrun2, rr1, rr2, Rfoot r A2, ⟨A2, _, c2, rfl, ⟨rr2.set 0 _, hls2.kept k3 (fun z hz => by have := b2 z hz; simp; omega), rfl, ?_, fun x hx => h.ok x (mem_del.1 hx).1, kn_del h.kn⟩⟩, ?_, ?_⟩
  · have := del_len' h.kn (show has L k = true by rw [lies_has hl]; rfl)
    omega
  · have kk : Kept [r] w w2 := (k1.mono (by simp)).trans k2 (fun x hx => .inr (by simp at hx; have := b1 _ hx; omega))
    exact (kk.trans' k3).mono (by simp [Rfoot])
  · intro z hz
    simp only [Rfoot, List.mem_cons, Option.mem_toList] at hz ⊢
    rcases hz with rfl | hz
    · exact .inl (.inl rfl)
    · cases A2 with
      | none => simp at hz
      | some a2 =>
        simp at hz
        subst hz
        exact .inr (b2 _ rfl)

set_option maxRecDepth 100000 in
set_option maxHeartbeats 2000000 in
theorem rcancel_yes {w : World} {r : Nat} {G : List Nat} {L : List Tm} (h : Rs w r G L) (k : Tk) (hk : k.ok) (i : Nat) (ho : Lies L k (some i)) :
    Calls Try.prog 20 #[.pointer (some ⟨r, 0, none⟩), .agg #[.int .u8 k.kd, .int .u64 k.id]] w fun e w' => e = .returned (.bool true) ∧ Ru w w' r G (del L k) := by
  obtain ⟨A, n, c, rfl, h⟩ := h
  have H1 := veil (h.keep (below_new w (.cells #[.int .u8 k.kd, .int .u64 k.id] 33)))
  have HB := veil (below_new w (.cells #[.int .u8 k.kd, .int .u64 k.id] 33))
  have kb := kb_new w k
  have HO := veil ho
  have hin : i < n := by have := ho.1; have := h.len; omega
  have hn6 : n ≤ 256 := h.lim
  obtain ⟨g0, hg⟩ : ∃ g, w.heap.size = g := ⟨_, rfl⟩
  rw [hg] at kb
  have k0 := kb.1
  have k1 := kb.2
  clear h ho kb
  go_enter Try.func20, Try.ntmps20
  go_wp2_with fail
  clear hg k0 k1
  generalize w.alloc (.cells #[.int .u8 k.kd, .int .u64 k.id] 33) = w1 at *
  refine (where_any H1.out k hk (some i) HO.out).mono ?_
  unfold wi
  rintro e w2 ⟨rfl, h2⟩
  have R1 := veil (H1.out.keep h2)
  have HB2 := veil (HB.out.trans (h2.mono HB.out.size))
  clear h2 H1 HB
  have c0 : w2.cell? ⟨r, 0, none⟩ = some (.slice A n c) := R1.out.row.cell 0
  obtain ⟨g, rest, rfl, _, hnc, hcm, _⟩ := R1.out.at0 (by omega)
  have hi2 : i ≤ c := by omega
  obtain ⟨p, hp⟩ : ∃ p, i + 1 = p := ⟨_, rfl⟩
  have hw : IntKind.i64.wrap ((i : Int) + 1) = (p : Int) := by rw [IntKind.wrap_i64]; omega
  have hp2 : (0 : Int) ≤ (p : Int) ∧ (p : Int) ≤ (n : Int) := by omega
  by_cases hcp : c = p
  · obtain ⟨A1, c1, w3, A2, n2, c2, w4, hr1, hr2, q3, q4, hru⟩ := rcut (R1.out.kept (kept_drew [] w2) (by simp)) HO.out 0 (.inr (by omega))
    have HR1 := veil hr1
    have HR2 := veil hr2
    have Z := veil (hru.after (below_still HB2.out ⟨1, rfl⟩ : Below w.heap.size w w2.drew))
    have d0 : w3.cell? ⟨r, 0, none⟩ = some (.slice (some ⟨g, 0, none⟩) n c) := q3.cell 0
    have e0 : w4.cell? ⟨r, 0, none⟩ = some (.slice (some ⟨g, 0, none⟩) n c) := q4.cell 0
    have e1 : w4.frozen? ⟨r, 0, none⟩ = false := q4.frozen 0
    have hm1 : (c : Int) ≤ 9223372036854775807 := by unfold maxLen at hcm; omega
    have hnp : n = p := by omega
    rw [hp] at HR2
    clear hr1 hr2 q3 q4 hru R1 HB2 HO hcm hp
    subst hcp hnp
    have hss : n - n = 0 := by omega
    rw [hss] at HR2
    go_wp2_with fail
    go_region_law (first | (refine step_append_of rfl (.const (.slice none 0 0)) (.tmp 17) rfl rfl rfl HR1.out ?_) | (refine step_append_of rfl (.tmp 18) (.tmp 25) rfl rfl rfl HR2.out ?_))
    all_goals
      clear c0 d0 e0 e1 HR1 HR2
      go_wp2_with fail
      go_ret
      exact ⟨rfl, Z.out⟩
  · obtain ⟨A1, c1, w3, A2, n2, c2, w4, hr1, hr2, q3, q4, hru⟩ := rcut (R1.out.kept (kept_drew [] w2) (by simp)) HO.out ((i + 1) * 3) (.inl rfl)
    have HR1 := veil hr1
    have HR2 := veil hr2
    have Z := veil (hru.after (below_still HB2.out ⟨1, rfl⟩ : Below w.heap.size w w2.drew))
    have d0 : w3.cell? ⟨r, 0, none⟩ = some (.slice (some ⟨g, 0, none⟩) n c) := q3.cell 0
    have e0 : w4.cell? ⟨r, 0, none⟩ = some (.slice (some ⟨g, 0, none⟩) n c) := q4.cell 0
    have e1 : w4.frozen? ⟨r, 0, none⟩ = false := q4.frozen 0
    have hm1 : (c : Int) ≤ 9223372036854775807 := by unfold maxLen at hcm; omega
    rw [hp] at HR2
    have hp1 : p ≤ n := by omega
    clear hr1 hr2 q3 q4 hru R1 HB2 HO hcm hp
    go_wp2_with fail
    go_region_law (first | (refine step_append_of rfl (.const (.slice none 0 0)) (.tmp 17) rfl rfl rfl HR1.out ?_) | (refine step_append_of rfl (.tmp 18) (.tmp 25) rfl rfl rfl HR2.out ?_))
    all_goals
      clear c0 d0 e0 e1 HR1 HR2
      go_wp2_with fail
      go_ret
      exact ⟨rfl, Z.out⟩

end Go.Proofs.Ytkjgmimfnmilfaa.Tm5
