/-
  The reference's set of timers in memory: a list; what its where, At, Ahead and Next answer.
  Conditions: at most 256 timers.
-/
import Derived.Test.YtkjgmimfnmilfaaTmrZ
import Derived.Test.YtkjgmimfnmilfaaTmrE
import Derived.Test.YtkjgmimfnmilfaaTmrK
namespace Go.Proofs.Ytkjgmimfnmilfaa.Tm5
open Go.RowKit Go.Proofs.Ytkjgmimfnmilfaa.Ops

structure Rf (w : World) (r : Nat) (A : Option Addr) (n c : Nat) (L : List Tm) : Prop where
  row : Row w r 29 #[.slice A n c]
  ls : Ls 69 w (.slice A n c) L
  len : L.length = n
  lim : n ≤ 256
  ok : ∀ x ∈ L, x.ok
  kn : Kn L
def Rfoot (r : Nat) (A : Option Addr) : List Nat := r :: (A.map (·.block)).toList
theorem Rf.at0 {w : World} {r : Nat} {A : Option Addr} {n c : Nat} {L : List Tm} (h : Rf w r A n c L) (hn : 0 < n) :
    ∃ g rest, A = some ⟨g, 0, none⟩ ∧ Row w g 69 (cv L ++ rest).toArray ∧ n ≤ c ∧ c ≤ maxLen ∧ (cv L ++ rest).length = c * 3 ∧ g ≠ r := by
  rcases h.ls.row with ⟨e, h0⟩ | ⟨g, cap, rest, e, hr, hc, hm, hs⟩
  · subst h0
    have := h.len
    simp at this
    omega
  · injection e with e1 e2 e3
    subst e1 e3
    exact ⟨g, rest, rfl, hr, by rw [← h.len]; exact hc, hm, hs, row_ne hr h.row (by decide)⟩
theorem Rf.kept {w w' : World} {r : Nat} {A : Option Addr} {n c : Nat} {L : List Tm} {F : List Nat} (h : Rf w r A n c L) (k : Kept F w w') (hF : ∀ x ∈ Rfoot r A, x ∉ F) : Rf w' r A n c L := by
  refine ⟨row_kept h.row k (hF r (by simp [Rfoot])), h.ls.kept k (fun g hg => hF g ?_), h.len, h.lim, h.ok, h.kn⟩
  cases A with
  | none => simp [Value.ownBlock] at hg
  | some a => simp [Value.ownBlock] at hg; simp [Rfoot, hg]
theorem Rf.keep {w w' : World} {r : Nat} {A : Option Addr} {n c : Nat} {L : List Tm} (h : Rf w r A n c L) (k : Below w.heap.size w w') : Rf w' r A n c L := h.kept (F := []) (kept_below k) (by simp)
theorem Rf.lt {w : World} {r : Nat} {A : Option Addr} {n c : Nat} {L : List Tm} (h : Rf w r A n c L) : ∀ z ∈ Rfoot r A, z < w.heap.size := by
  intro z hz
  simp [Rfoot] at hz
  rcases hz with rfl | ⟨a, ha, rfl⟩
  · exact h.row.lt
  · subst ha
    exact (h.ls.lt a.block rfl).2

/-! ### places in a list -/
theorem ix_eq {L : List Tm} {i : Nat} (h : i < L.length) : ix L i = L[i] := by unfold ix; rw [List.getD_eq_getElem?_getD, List.getElem?_eq_getElem h]; rfl
theorem Kn.inj {L : List Tm} (h : Kn L) {i j : Nat} (hi : i < L.length) (hj : j < L.length) (e : (ix L i).k = (ix L j).k) : i = j := by
  rw [ix_eq hi, ix_eq hj] at e
  unfold Kn at h
  rw [List.pairwise_iff_getElem] at h
  rcases Nat.lt_trichotomy i j with q | q | q
  · exact absurd e (h i j hi hj q)
  · exact q
  · exact absurd e.symm (h j i hj hi q)
theorem lies_at {L : List Tm} {k : Tk} {o : Option Nat} (h : Lies L k o) (hk : Kn L) {j : Nat} (hj : j < L.length) (e : (ix L j).k = k) : o = some j := by
  cases o with
  | none => exact absurd e (h _ (ix_mem hj))
  | some i => rw [hk.inj h.1 hj (by rw [h.2, e])]
theorem lies_end {L : List Tm} {k : Tk} {o : Option Nat} (h : Lies L k o) (hn : ∀ i, i < L.length → (ix L i).k ≠ k) : o = none := by
  cases o with
  | none => rfl
  | some i => exact absurd h.2 (hn i h.1)
theorem lies_has {L : List Tm} {k : Tk} {o : Option Nat} (h : Lies L k o) : has L k = o.isSome := by
  cases o with
  | none => exact has_no.2 h
  | some i => exact has_yes.2 ⟨ix L i, ix_mem h.1, h.2⟩
theorem lies_tm {L : List Tm} {k : Tk} {i : Nat} (h : Lies L k (some i)) (hk : Kn L) : tm L k = (ix L i).t := by
  rw [← h.2]
  exact tm_eq hk (ix_mem h.1)

def wi : Option Nat → Int
  | some i => i
  | none => -1
theorem where_any {w : World} {r : Nat} {A : Option Addr} {n c : Nat} {L : List Tm} (h : Rf w r A n c L) (k : Tk) (hk : k.ok) (o : Option Nat) (ho : Lies L k o) :
    Calls Try.prog 30 #[.pointer (some ⟨r, 0, none⟩), .agg #[.int .u8 k.kd, .int .u64 k.id]] w fun e w' => e = .returned (.int .i64 (wi o)) ∧ Below w.heap.size w w' := by
  have H1 := veil (h.keep (below_new w (.cells #[.int .u8 k.kd, .int .u64 k.id] 33)))
  have HB := veil (below_new w (.cells #[.int .u8 k.kd, .int .u64 k.id] 33))
  have kb := kb_new w k
  have HO := veil ho
  have HL := veil h.len
  have hlim := h.lim
  obtain ⟨g0, hg⟩ : ∃ g, w.heap.size = g := ⟨_, rfl⟩
  rw [hg] at kb
  have KB := veil kb
  have HK := veil hk
  clear h ho kb hk
  go_enter Try.func30, Try.ntmps30
  go_wp2_with fail
  clear hg
  generalize w.alloc (.cells #[.int .u8 k.kd, .int .u64 k.id] 33) = w1 at *
  go_loopw [5] (fun u wr => ∃ j : Nat, j ≤ n ∧ u = .int .i64 j ∧ Hid (∀ i, i < j → (ix L i).k ≠ k) ∧ Hid (Below w1.heap.size w1 wr)) (fun u _ => n - (intOf u).toNat)
  case atStart => exact ⟨0, Nat.zero_le _, rfl, fun i hi => absurd hi (by omega), Below.refl _ _⟩
  case round =>
    obtain ⟨j, hj, rfl, NO, WB⟩ := hrel
    have R1 := veil (H1.out.keep WB.out)
    have c0 : wr.cell? ⟨r, 0, none⟩ = some (.slice A n c) := R1.out.row.cell 0
    by_cases hlt : j < n
    · obtain ⟨g, rest, rfl, hr, _⟩ := R1.out.at0 (by omega)
      have i0 : wr.cell? ⟨g, j * 3, none⟩ = some (.int .u8 (ix L j).k.kd) := cell_get hr (by rw [HL.out]; exact hlt) 0 (by omega)
      have i1 : wr.cell? ⟨g, j * 3 + 1, none⟩ = some (.int .u64 (ix L j).k.id) := cell_get hr (by rw [HL.out]; exact hlt) 1 (by omega)
      have k0 := (KB.out.keep WB.out).1
      have k1 := (KB.out.keep WB.out).2
      have ok := R1.out.ok _ (ix_mem (show j < L.length by rw [HL.out]; exact hlt))
      cases hz : sameK (ix L j).k k with
      | true =>
        have hb := eql_key ok.k HK.out hz
        have OJ := veil (lies_at HO.out R1.out.kn (by rw [HL.out]; exact hlt) (sameK_iff.1 hz))
        clear hz hr ok R1 NO
        generalize ix L j = x at *
        go_wp2_with fail
        go_quiet (fail)
        clear hb
        go_wp2_with fail
        go_ret
        exact ⟨by rw [OJ.out]; rfl, below_still (HB.out.trans (WB.out.mono HB.out.size)) ⟨_, rfl⟩⟩
      | false =>
        have hb := eql_key ok.k HK.out hz
        have NN : Hid (∀ i, i < j + 1 → (ix L i).k ≠ k) := fun i hi => by
          by_cases e : i = j
          · subst e; exact sameK_no.1 hz
          · exact NO.out i (by omega)
        clear hz hr ok R1 NO
        generalize ix L j = x at *
        go_wp2_with fail
        go_quiet (fail)
        clear hb
        go_wp2_with fail
        go_roundw
        case rel => exact ⟨j + 1, by omega, by go_num, NN, below_still WB.out ⟨_, rfl⟩⟩
        case measure => simp [intOf]; omega
    · have hjn : j = n := by omega
      have hlt' : ¬ (j : Int) < (n : Int) := by omega
      have OJ := veil (lies_end HO.out (by rw [HL.out, ← hjn]; exact NO.out))
      clear hjn hlt R1
      go_wp2_with fail
      go_ret
      exact ⟨by rw [OJ.out]; rfl, HB.out.trans (WB.out.mono HB.out.size)⟩

theorem rat_yes {w : World} {r : Nat} {A : Option Addr} {n c : Nat} {L : List Tm} (h : Rf w r A n c L) (k : Tk) (hk : k.ok) (i : Nat) (ho : Lies L k (some i)) :
    Calls Try.prog 23 #[.pointer (some ⟨r, 0, none⟩), .agg #[.int .u8 k.kd, .int .u64 k.id]] w fun e w' => e = .returned (.tuple #[.int .u64 (ix L i).t, .bool true]) ∧ Below w.heap.size w w' := by
  have H1 := veil (h.keep (below_new w (.cells #[.int .u8 k.kd, .int .u64 k.id] 33)))
  have HB := veil (below_new w (.cells #[.int .u8 k.kd, .int .u64 k.id] 33))
  have HO := veil ho
  have hl := h.len
  have hlim := h.lim
  have hin : i < n := by have := ho.1; omega
  have HL := veil hl
  clear h ho hl
  go_enter Try.func23, Try.ntmps23
  go_wp2_with fail
  generalize w.alloc (.cells #[.int .u8 k.kd, .int .u64 k.id] 33) = w1 at *
  refine (where_any H1.out k hk (some i) HO.out).mono ?_
  unfold wi
  rintro e w2 ⟨rfl, h2⟩
  have R1 := veil (H1.out.keep h2)
  have HB2 := veil (HB.out.trans (h2.mono HB.out.size))
  clear h2 H1 HB
  have c0 : w2.cell? ⟨r, 0, none⟩ = some (.slice A n c) := R1.out.row.cell 0
  obtain ⟨g, rest, rfl, hr, _⟩ := R1.out.at0 (by omega)
  have i2 : w2.cell? ⟨g, i * 3 + 2, none⟩ = some (.int .u64 (ix L i).t) := cell_get hr (by rw [HL.out]; exact hin) 2 (by omega)
  clear hr R1
  go_wp2_with fail
  go_ret2
  exact ⟨rfl, HB2.out⟩
theorem rat_no {w : World} {r : Nat} {A : Option Addr} {n c : Nat} {L : List Tm} (h : Rf w r A n c L) (k : Tk) (hk : k.ok) (ho : Lies L k none) :
    Calls Try.prog 23 #[.pointer (some ⟨r, 0, none⟩), .agg #[.int .u8 k.kd, .int .u64 k.id]] w fun e w' => e = .returned (.tuple #[.int .u64 0, .bool false]) ∧ Below w.heap.size w w' := by
  have H1 := veil (h.keep (below_new w (.cells #[.int .u8 k.kd, .int .u64 k.id] 33)))
  have HB := veil (below_new w (.cells #[.int .u8 k.kd, .int .u64 k.id] 33))
  have HO := veil ho
  clear h ho
  go_enter Try.func23, Try.ntmps23
  go_wp2_with fail
  generalize w.alloc (.cells #[.int .u8 k.kd, .int .u64 k.id] 33) = w1 at *
  refine (where_any H1.out k hk none HO.out).mono ?_
  unfold wi
  rintro e w2 ⟨rfl, h2⟩
  have HB2 := veil (HB.out.trans (h2.mono HB.out.size))
  clear h2 H1 HB
  go_wp2_with fail
  go_ret2
  exact ⟨rfl, HB2.out⟩

theorem rahead_any (a b : Tm) (w : World) {z : Bool} (hz : lt a b = z) : Calls Try.prog 31 #[.agg (tv a).toArray, .agg (tv b).toArray] w fun e w' => e = .returned (.bool z) ∧ Below w.heap.size w w' := by
  show Calls _ _ #[.agg #[.int .u8 a.k.kd, .int .u64 a.k.id, .int .u64 a.t], .agg #[.int .u8 b.k.kd, .int .u64 b.k.id, .int .u64 b.t]] w _
  have HB := veil ((below_new w (.cells #[.int .u8 a.k.kd, .int .u64 a.k.id, .int .u64 a.t] 69)).alloc (by simp) (.cells #[.int .u8 b.k.kd, .int .u64 b.k.id, .int .u64 b.t] 69))
  have HZ := veil hz
  clear hz
  by_cases h1 : a.t = b.t
  · have n1 : (a.t != b.t) = false := by simp [h1]
    by_cases h2 : a.k.kd = b.k.kd
    · have n2 : (a.k.kd != b.k.kd) = false := by simp [h2]
      have ed := veil (lt_dec (p := a.k.id < b.k.id) (x := a) (y := b) (by rw [lt_iff]; omega))
      clear h1 h2
      go_enter Try.func31, Try.ntmps31
      go_wp2_with fail
      go_ret
      exact ⟨ret_bool (by rw [← HZ.out]; exact ed.out), HB.out⟩
    · have n2 : (a.k.kd != b.k.kd) = true := by simp [h2]
      have ed := veil (lt_dec (p := a.k.kd < b.k.kd) (x := a) (y := b) (by rw [lt_iff]; omega))
      clear h1 h2
      go_enter Try.func31, Try.ntmps31
      go_wp2_with fail
      go_ret
      exact ⟨ret_bool (by rw [← HZ.out]; exact ed.out), HB.out⟩
  · have n1 : (a.t != b.t) = true := by simp [h1]
    have ed := veil (lt_dec (p := a.t < b.t) (x := a) (y := b) (by rw [lt_iff]; omega))
    clear h1
    go_enter Try.func31, Try.ntmps31
    go_wp2_with fail
    go_ret
    exact ⟨ret_bool (by rw [← HZ.out]; exact ed.out), HB.out⟩

end Go.Proofs.Ytkjgmimfnmilfaa.Tm5
