/-
  What the reference's Feed answers: as many are taken as there is room for, and wait behind the others.
  Conditions: its words lie in a block of their own, which is not that of the words fed; at most 16777216 of them.
-/
import Derived.Test.YtmjpmagfbiocnaaDrwR
import Derived.Deep.RegionLaw
import Derived.BigRegion
namespace Go.Proofs.Ytmjpmagfbiocnaa.W32
open Go.RowKit

/-- one append as one step of a region that draws -/
theorem step_append_of {P : Program} {ops : Array Oper} {o : Oper} {a : Act} {w w' : World} {K : Act → World → Prop} {Q : Exit → Act → World → Prop} {E : Prop} {t : TypeId} {v u r : Value} (hgd : o.guard = none) (s x : Operand)
    (ho : o.op = .call { callee := .builtin .append, args := #[s, x], argTypes := #[t, t] }) (hs : a.eval s = v) (hx : a.eval x = u)
    (hrun : (Builtin.append_ #[t, t] o.type #[v, u]).run P w = .ok r w') (h : K (a.put o.dst r) w') : if Region.wanted o (yielded ops a.tmps) = true then Oper.wp P o a w K Q else E := by
  rw [if_pos (by simp [Region.wanted, hgd])]
  exact wp_append_of s x ho hs hx hrun h

theorem Rd.alt {w w' : World} {A : Option Addr} {zs : List Int} {r : Nat} {ob : Option Nat} (h : Rd w A zs) (k : Alt w w' r ob) (ho : zs ≠ [] → ∀ a, A = some a → a.block ≠ r ∧ some a.block ≠ ob) : Rd w' A zs := by
  intro j hj
  obtain ⟨a, e, hc⟩ := h j hj
  have hz : zs ≠ [] := fun e => by subst e; simp at hj
  have := ho hz a e
  refine ⟨a, e, ?_⟩
  have hlt := block_lt_of_cell hc
  rw [← hc]
  exact World.cell?_of_block (k.block _ hlt (by rw [block_add]; exact this.1) (by rw [block_add]; exact this.2))

/-- the list grows by one word -/
theorem Rf.one {w : World} {base r : Nat} {v : Value} {q : List Int} (h : Rf w base r v q) (hb : base ≤ w.heap.size) (hq : q.length ≤ 2000) (z : Int) :
    ∃ A c w1, (Builtin.append_ #[28, 28] 28 #[v, .slice (some ⟨w.heap.size, 0, none⟩) 1 1]).run Try.prog (w.alloc (.cells #[.int .u32 z] 31)) = .ok (.slice A (q.length + 1) c) w1 ∧
      w1.cell? ⟨r, 0, none⟩ = some v ∧ w1.frozen? ⟨r, 0, none⟩ = false ∧ Rf (w1.setCell ⟨r, 0, none⟩ (.slice A (q.length + 1) c)) base r (.slice A (q.length + 1) c) (q ++ [z]) ∧
      Alt w (w1.setCell ⟨r, 0, none⟩ (.slice A (q.length + 1) c)) r v.ownBlock ∧ Lies w v.ownBlock (.slice A (q.length + 1) c) := by
  have hW := below_new w (.cells #[.int .u32 z] 31)
  have hx : Slc (w.alloc (.cells #[.int .u32 z] 31)) (.slice (some ⟨w.heap.size, 0, none⟩) 1 1) [z] := .inr ⟨_, 1, rfl, rd_lit (row_new rfl) rfl, by simp⟩
  have h1 := h.keep hW
  obtain ⟨v', w1, hrun, k1, k2, k3⟩ := run_append_slc _ base 28 v _ q [z] h1.own hx (by simp; omega) (Nat.le_trans hb hW.size)
  obtain ⟨A, c, rfl⟩ := own_is k1
  have hl : (q ++ [z]).length = q.length + 1 := by simp
  rw [hl] at hrun k1 k3
  have hr := h1.row.gb k2 (fun e => h.ne e.symm)
  have hlies : Lies w v.ownBlock (.slice A (q.length + 1) c) := fun b e => by
    rcases k3 with k3 | k3
    · rw [k3] at e
      exact .inl e.symm
    · rw [k3] at e
      injection e with e
      have := hW.size
      exact .inr (by omega)
  have hne : (Value.slice A (q.length + 1) c).ownBlock ≠ some r := fun e => by
    rcases hlies r e with h2 | h2
    · exact h.ne h2.symm
    · have := h.row.lt
      omega
  refine ⟨A, c, w1, hrun, hr.cell 0, hr.frozen 0, ⟨?_, ?_, hne⟩, ?_, hlies⟩
  · have := hr.set 0 (.slice A (q.length + 1) c)
    simpa using this
  · exact k1.gb (gb_set w1 r 0 _) hne
  · exact ((alt_below hW r v.ownBlock).trans (alt_gb k2) (.inl rfl)).trans (alt_set w1 r v.ownBlock 0 _) (.inl rfl)

theorem Lies.trans {w w1 : World} {ob : Option Nat} {v v' : Value} (h : Lies w ob v) (k : Lies w1 v.ownBlock v') (hs : w.heap.size ≤ w1.heap.size) : Lies w ob v' := fun b e => by
  rcases k b e with k | k
  · exact h b k.symm
  · exact .inr (by omega)

theorem Alt.next {a b c : World} {r : Nat} {ob : Option Nat} {v : Value} (h : Alt a b r ob) (k : Alt b c r v.ownBlock) (hl : Lies a ob v) : Alt a c r ob := by
  refine ⟨k.os.trans h.os, k.tape.trans h.tape, k.output.trans h.output, Nat.le_trans h.size k.size, fun i hi h1 h2 => ?_⟩
  rw [k.block i (Nat.lt_of_lt_of_le hi h.size) h1 (fun e => by
    rcases hl i e.symm with e1 | e1
    · exact h2 e1
    · omega), h.block i hi h1 h2]

theorem Alt.still {w w' : World} {r : Nat} {ob : Option Nat} (h : Alt w.drew w' r ob) : Alt w w' r ob := ⟨h.os, h.tape, h.output, h.size, h.block⟩

set_option maxRecDepth 20000 in
set_option maxHeartbeats 2000000 in
theorem refFeed_at {w : World} {base r : Nat} {v : Value} {q zs : List Int} (A : Option Addr) (n c Q : Nat) (h : Rf w base r v q) (hb : base ≤ w.heap.size) (hq : q.length = Q) (hQ : Q ≤ 256) (hr : Rd w A zs) (hl : zs.length = n) (hn : n ≤ 1000000)
    (ho : zs ≠ [] → ∀ a, A = some a → a.block ≠ r ∧ some a.block ≠ v.ownBlock) :
    Calls Try.prog 12 #[.pointer (some ⟨r, 0, none⟩), .slice A n c] w
      fun e w' => e = .returned (.int .i64 (min n (256 - Q) : Nat)) ∧ ∃ v', Rf w' base r v' (q ++ zs.take (min n (256 - Q))) ∧ Alt w w' r v.ownBlock ∧ Lies w v.ownBlock v' := by
  have H := veil h
  have HB := veil hb
  have HQ := veil hq
  have HR := veil hr
  have HL := veil hl
  have HO := veil ho
  clear h hb hq hr hl ho
  go_enter Try.func12, Try.ntmps12
  go_wp2_with fail
  go_loopw [5] (fun i wr => ∃ (j : Nat) (v' : Value), j ≤ n ∧ Q + j ≤ 256 ∧ i = .int .i64 j ∧ Hid (Rf wr base r v' (q ++ zs.take j)) ∧ Hid (Alt w wr r v.ownBlock) ∧ Hid (Lies w v.ownBlock v')) (fun i _ => n - (intOf i).toNat)
  case atStart => exact ⟨0, v, Nat.zero_le _, by omega, rfl, by simpa using H, alt_refl _ _ _, fun b e => .inl e.symm⟩
  case round =>
    obtain ⟨j, v', hj, hQj, rfl, hF, hA, hS⟩ := hrel
    have hlen : (q ++ zs.take j).length = Q + j := by simp [HQ.out, HL.out]; omega
    obtain ⟨A', c', rfl⟩ := own_is hF.out.own
    rw [hlen] at hF hS
    have c0 := hF.out.row.cell 0
    have c0 : wr.cell? ⟨r, 0, none⟩ = some (.slice A' (Q + j) c') := c0
    by_cases hlt : j < n
    · by_cases h5 : Q + j < 256
      · obtain ⟨a, rfl, hca⟩ := HR.out.alt hA.out HO.out j (by rw [HL.out]; exact hlt)
        have hT : Hid (zs.take (j + 1) = zs.take j ++ [zs.getD j 0]) := take_next zs j (by rw [HL.out]; omega)
        generalize zs.getD j 0 = z at *
        have h6 : ((Q : Int) + j) < 256 := by omega
        have hF1 : Rf wr.drew base r (.slice A' (Q + j) c') (q ++ zs.take j) := hF.out.keep ⟨rfl, rfl, rfl, Nat.le_refl _, fun _ _ => rfl⟩
        obtain ⟨A2, c2, w2, hrun, k1, k2, k3, k4, k5⟩ := hF1.one (Nat.le_trans HB.out hA.out.size) (by rw [hlen]; omega) z
        rw [hlen] at hrun k3 k4 k5
        have HRUN := veil hrun
        have K3 := veil k3
        have K4 := veil k4
        have K5 := veil k5
        have M1 := (below_new wr (.cells #[.int .u32 z] 31))
        have c1 : (wr.alloc (.cells #[.int .u32 z] 31)).cell? ⟨r, 0, none⟩ = some (.slice A' (Q + j) c') := (hF.out.row.keep M1).cell 0
        clear hrun k3 k4 k5 hF1 M1
        go_wp2_with fail
        go_region_law (refine step_append_of rfl (.tmp 22) (.tmp 27) rfl rfl rfl HRUN.out ?_)
        all_goals
          go_wp2_with fail
          go_roundw
          case rel => exact ⟨j + 1, _, by omega, by omega, by go_num, by show Rf _ _ _ _ _; rw [hT.out, ← List.append_assoc]; exact K3.out, hA.out.next (Alt.still K4.out) hS.out, hS.out.trans K5.out hA.out.size⟩
          case measure => simp [intOf]; omega
      · have h6 : ¬ (((Q : Int) + j) < 256) := by omega
        have e : min n (256 - Q) = j := by omega
        have E := veil e
        clear e h5
        go_wp2_with fail
        go_ret
        rw [E.out]
        exact ⟨rfl, _, hF.out, hA.out, hS.out⟩
    · have e : min n (256 - Q) = j := by omega
      have E := veil e
      clear e
      go_wp2_with fail
      go_ret
      rw [E.out]
      exact ⟨rfl, _, hF.out, hA.out, hS.out⟩

end Go.Proofs.Ytmjpmagfbiocnaa.W32
