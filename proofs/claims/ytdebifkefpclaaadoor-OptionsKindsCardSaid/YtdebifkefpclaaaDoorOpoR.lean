/-
  Options out of bytes, by the document's answer: whatever bytes there are; they are what the code tells.
  Conditions: at most 16000000 bytes.
-/
import Derived.Test.YtdebifkefpclaaaDoorOpoG
import Derived.Deep.RegionHeld3
import Derived.BigRegion
import Derived.Deep.CutRange
namespace Go.Proofs.YtdebifkefpclaaaDoor.Oz
set_option maxRecDepth 100000
open Go.RowKit Ops

theorem slice_lo {A : Option Addr} {n c k : Nat} (hk : k ≤ n) (u : World) : (Instr.sliceAt 26 (.slice A n c) (some (.int .i64 k)) none none).run Tryd.prog u = .ok (.slice (cutA A c k) (n - k) (c - k)) u := by
  have h1 : ¬ n < k := by omega
  simp [Instr.sliceAt, run_underlying Tryd.underlying26, go_sem, cutA, h1]
theorem slice_hi {A : Option Addr} {n c k : Nat} (hk : k ≤ c) (u : World) : (Instr.sliceAt 26 (.slice A n c) none (some (.int .i64 k)) none).run Tryd.prog u = .ok (.slice A k c) u := by
  have h1 : ¬ c < k := by omega
  simp [Instr.sliceAt, run_underlying Tryd.underlying26, go_sem, h1]
theorem slice_lohi {A : Option Addr} {n c j k : Nat} (hj : j ≤ k) (hk : k ≤ c) (u : World) : (Instr.sliceAt 26 (.slice A n c) (some (.int .i64 j)) (some (.int .i64 k)) none).run Tryd.prog u = .ok (.slice (cutA A c j) (k - j) (c - j)) u := by
  simp [Instr.sliceAt, run_underlying Tryd.underlying26, go_sem, cutA, hj, hk]
theorem slc_front {w : World} {A : Option Addr} {n c k : Nat} {zs : List Int} (h : Slc w (.slice A n c) zs) (hk : k ≤ n) : Slc w (.slice A k c) (zs.take k) := by
  obtain ⟨hl, hr, hc⟩ := slc_of h
  cases A with
  | none =>
    have hz : zs = [] := by
      rcases h with ⟨_, h⟩ | ⟨a, d, e, _⟩
      · exact h
      · cases e
    subst hz
    simp at hl
    obtain rfl : k = 0 := by omega
    rcases h with ⟨e, _⟩ | ⟨a, d, e, _⟩
    · injection e with e1 e2 e3
      subst e3
      exact .inl ⟨rfl, rfl⟩
    · cases e
  | some a => exact .inr ⟨a, c, by rw [List.length_take, Nat.min_eq_left (by omega)], hr.take k, by rw [List.length_take]; omega⟩

/-- a list that the document's answer makes: each option's bytes are its own -/
structure Made (w0 w : World) (base : Nat) (v : Value) (l : List El) (os : List (Int × List Int)) : Prop where
  many : Many w0 w [] base v l
  len : l.length = os.length
  each : ∀ (i : Nat) (x : El) (o : Int × List Int), l[i]? = some x → os[i]? = some o → x.k = o.1 ∧ Own w base x.v o.2 ∧ ∀ g, x.v.ownBlock = some g → v.ownBlock ≠ some g
section
variable {w0 w : World} {base : Nat} {v : Value} {l : List El} {os : List (Int × List Int)}
theorem Made.drew (h : Made w0 w base v l os) : Made w0 w.drew base v l os := ⟨h.many.drew, h.len, h.each⟩
theorem Made.begin (w : World) : Made w w w.heap.size (.slice none 0 0) [] [] := ⟨Many.begin (Lay.begin w), rfl, fun i x o h => by simp at h⟩
theorem Made.next (h : Made w0 w base v l os) (k : Int) (zs : List Int) (u : Value) (hu : Slc w u zs) (hz : zs.length ≤ 16000000) (hn : l.length ≤ 1000000) (ty ty2 : TypeId) :
    ∃ A1 n1 c1 w1 v2 w2, (Builtin.append_ #[26, 26] ty #[.slice none 0 0, u]).run Tryd.prog w = .ok (.slice A1 n1 c1) w1 ∧ Below w.heap.size w w1 ∧
      (Builtin.append_ #[22, 22] ty2 #[v, .slice (some ⟨w1.heap.size, 0, none⟩) 1 1]).run Tryd.prog (w1.alloc (.cells #[.int .u8 k, .slice A1 n1 c1] 29)) = .ok v2 w2 ∧ Made w0 w2 base v2 (l ++ [⟨k, A1, n1, c1⟩]) (os ++ [(k, zs)]) := by
  obtain ⟨v1, w1, h1, own1, hg1, hloc1⟩ := run_append_slc w base ty (.slice none 0 0) u [] zs (own_nil _ _) hu (by simp; omega) h.many.hi
  rw [List.nil_append] at own1
  obtain ⟨A1, c1, e1, _, _⟩ := own1.slc.slice
  subst e1
  have q1 : Below w.heap.size w w1 := ⟨hg1.os, hg1.tape, hg1.output, hg1.size, fun b hb => hg1.block b hb (by simp [Value.ownBlock])⟩
  have M1 := h.many.keep q1
  obtain ⟨v2, w2, h2, M2, hg2, hloc2⟩ := M1.more ⟨k, A1, zs.length, c1⟩ hn ty2
  refine ⟨A1, zs.length, c1, w1, v2, w2, h1, q1, h2, M2, by simp [h.len], fun i x o hx ho => ?_⟩
  have hvb : ∀ g, v.ownBlock = some g → g < w.heap.size := fun g hg => (World.ownsRow.lt h.many.own g hg).2
  by_cases hi : i < l.length
  · rw [List.getElem?_append_left hi] at hx
    rw [List.getElem?_append_left (by rw [← h.len]; exact hi)] at ho
    obtain ⟨e1, e2, e3⟩ := h.each i x o hx ho
    refine ⟨e1, World.ownsRow.kept (World.ownsRow.alloc (Own.keep e2 q1) _) hg2 ?_, fun g hg => ?_⟩
    · cases hb : x.v.ownBlock with
      | none => exact .inl rfl
      | some g => exact .inr (fun e => e3 g hb e.symm)
    · intro e
      rcases hloc2 with e' | e'
      · exact e3 g hg (e' ▸ e)
      · have := (World.ownsRow.lt e2 g hg).2
        rw [e'] at e
        injection e with e
        have := q1.size
        omega
  · have hil : i < l.length + 1 := by have := (List.getElem?_eq_some_iff.1 hx).1; simpa using this
    obtain rfl : i = l.length := by omega
    rw [List.getElem?_append_right (Nat.le_refl _), Nat.sub_self] at hx
    rw [List.getElem?_append_right (by rw [h.len]; exact Nat.le_refl _), h.len, Nat.sub_self] at ho
    simp only [List.getElem?_cons_zero, Option.some.injEq] at hx ho
    subst hx ho
    have hx1 : ∀ g, (Value.slice A1 zs.length c1).ownBlock = some g → w.heap.size ≤ g := fun g hg => by
      rcases hloc1 with e' | e'
      · rw [e'] at hg; simp [Value.ownBlock] at hg
      · rw [e'] at hg; injection hg with hg; omega
    refine ⟨rfl, World.ownsRow.kept (World.ownsRow.alloc own1 _) hg2 ?_, fun g hg e => ?_⟩
    · cases hb : (El.v ⟨k, A1, zs.length, c1⟩).ownBlock with
      | none => exact .inl rfl
      | some g =>
        refine .inr (fun e => ?_)
        have := hvb g e.symm
        have := hx1 g hb
        omega
    · have h3 := hx1 g hg
      have h4 := (World.ownsRow.lt own1 g hg).2
      rcases hloc2 with e' | e'
      · have := hvb g (e' ▸ e); omega
      · rw [e'] at e; injection e with e; omega
end
/-- what the document's answer is -/
def RefO (w : World) (zs : List Int) (R : Option (List Sp)) (e : Ending) (w' : World) : Prop := match R with
  | none => e = .returned (.tuple #[.slice none 0 0, .int .i64 4]) ∧ Below w.heap.size w w'
  | some ds => ∃ A c base l, e = .returned (.tuple #[.slice A ds.length c, .int .i64 0]) ∧ Made w w' base (.slice A ds.length c) l (plain zs ds)

theorem still_below0 {w w' : World} (h : Below w.drew.heap.size w.drew w') : Below w.heap.size w w' := ⟨h.os, h.tape, h.output, h.size, h.block⟩
theorem cell_keep {w w' : World} {a : Addr} {v : Value} (h : w.cell? a = some v) (q : Below w.heap.size w w') : w'.cell? a = some v := by
  have hlt : a.block < w.heap.size := by
    unfold World.cell? at h
    cases hb : w.heap[a.block]? with
    | none => simp [hb] at h
    | some o => exact (Array.getElem?_eq_some_iff.1 hb).1
  unfold World.cell? at h ⊢
  rw [q.block a.block hlt]
  exact h
def lenS (v : Value) : Nat := match v with
  | .slice _ n _ => n
  | _ => 0
theorem plain_next (zs : List Int) (acc : List Sp) (x : Sp) : plain zs (acc ++ [x]) = plain zs acc ++ [(x.k, (zs.drop x.o).take x.n)] := by simp [plain]

set_option linter.unusedSimpArgs false in
set_option maxHeartbeats 8000000 in
theorem refGet (A : Option Addr) (n c : Nat) (zs : List Int) (w : World) (hs : Slc w (.slice A n c) zs) (hz : Byt zs) (hl : zs.length = n) (hn : n ≤ 16000000) :
    Calls Tryd.prog 24 #[.slice A n c] w (RefO w zs (goes zs 0 [])) := by
  obtain ⟨R, hR⟩ : ∃ R, goes zs 0 [] = R := ⟨_, rfl⟩
  rw [hR]
  have HZ := veil hz
  have HL := veil hl
  have HR := veil hR
  have HS := veil hs
  have VM := veil (Made.begin w)
  obtain ⟨base, hbase⟩ : ∃ x, w.heap.size = x := ⟨_, rfl⟩
  rw [hbase] at VM
  clear hs hz hl hR hbase
  go_enter Tryd.func24, Tryd.ntmps24
  go_wp2_with fail
  go_loopw [0, 4] (fun s0 s4 wr => ∃ (p r : Nat) (acc : List Sp) (l : List El) (A0 : Option Addr) (c0 : Nat), p + r = n ∧ s0 = .slice A0 r c0 ∧ Hid (Slc w (.slice A0 r c0) (zs.drop p)) ∧ Hid (Made w wr base s4 l (plain zs acc)) ∧ Hid (goes zs p acc = R) ∧ Hid (Lie zs p acc)) (fun s0 _ _ => lenS s0)
  case atStart => exact ⟨0, n, [], [], A, c, by omega, rfl, veil (by simpa using HS.out), VM, HR, veil (lie_nil zs)⟩
  case round =>
    rename_i s4 wr
    obtain ⟨p, r, acc, l, A0, c0, hp, rfl, VS, VN, HG, HL2⟩ := hrel
    clear VM HR HS
    have VM := veil VN.out
    clear VN
    obtain ⟨A4, c4, e4, hc4⟩ := VM.out.many.slice
    have hll : l.length = acc.length := by rw [VM.out.len]; simp [plain]
    rw [hll] at e4
    subst e4
    have HLL := veil hll
    clear hll hc4
    by_cases h0 : r = 0
    · subst h0
      have HG' : Hid (R = some acc) := veil (by rw [← HG.out, goes_end (by have := HL.out; omega)])
      go_wp2_with fail
      go_ret2
      rw [HG'.out]
      exact ⟨A4, c4, base, l, rfl, VM.out⟩
    have h0' : 0 < r := by omega
    have hol : p < zs.length := by have := HL.out; omega
    have hbx := HZ.out.at_ p
    have hrd := (slc_rd VS.out).1.keep VM.out.many.lay.below
    obtain ⟨a, ha, ca⟩ := hrd 0 (by simp; omega)
    subst ha
    have ca : wr.cell? a = some (.int .u8 (zs.getD p 0)) := by
      rw [show a.add 0 = a by simp [Addr.add]] at ca
      rw [ca]
      simp [List.getD]
    have hw1 : IntKind.u8.wrap (zs.getD p 0) = zs.getD p 0 := by rw [IntKind.wrap_u8]; omega
    obtain ⟨x0, hx0⟩ : ∃ x, zs.getD p 0 = x := ⟨_, rfl⟩
    rw [hx0] at ca hw1 hbx
    have HX0 := veil hx0
    clear hx0
    by_cases h1 : r < 2
    · have i2 : (r : Int) < 2 := by omega
      have i0 : (0 : Int) < (r : Int) := by omega
      have HG' : Hid (R = none) := veil (by rw [← HG.out, goes_wrong hol (by unfold Wrong; exact .inl (by have := HL.out; omega))])
      clear h0 h0' h1 hol hbx hw1 hrd
      go_wp2_with fail
      go_ret2
      rw [HG'.out]
      exact ⟨rfl, VM.out.many.lay.below⟩
    have hol1 : p + 1 < zs.length := by have := HL.out; omega
    have hbk := HZ.out.at_ (p + 1)
    obtain ⟨a', ha', cb⟩ := hrd 1 (by simp; omega)
    injection ha' with ha'
    subst ha'
    have cb : wr.cell? ⟨a.block, a.off + 1, none⟩ = some (.int .u8 (zs.getD (p + 1) 0)) := by
      rw [show a.add 1 = ⟨a.block, a.off + 1, none⟩ by simp [Addr.add]] at cb
      rw [cb]
      simp [List.getD]
    obtain ⟨kk, hkk⟩ : ∃ x : Nat, zs.getD (p + 1) 0 = (x : Int) := ⟨eightsAt zs p, by unfold eightsAt; omega⟩
    have hke : Hid (eightsAt zs p = kk) := veil (by unfold eightsAt; rw [hkk]; omega)
    rw [hkk] at cb hbk
    obtain ⟨nk, hnk⟩ : ∃ x, 8 * kk = x := ⟨_, rfl⟩
    have hw2 : IntKind.i64.wrap (kk : Int) = (kk : Int) := by rw [IntKind.wrap_i64]; omega
    have hk8 : (8 : Int) * (kk : Int) = (nk : Int) := by omega
    have i0 : (0 : Int) < (r : Int) := by omega
    have i2 : ¬ (r : Int) < 2 := by omega
    have i1 : (1 : Int) < (r : Int) := by omega
    have hnb : (nk : Int) ≤ 2040 := by omega
    have HNK := veil hnk
    clear hkk hnk h0 hrd
    by_cases h2 : kk = 0
    · have d2 : ((kk : Int) == 0) = true := by simp; omega
      have HG' : Hid (R = none) := veil (by rw [← HG.out, goes_wrong hol (by unfold Wrong; rw [hke.out]; exact .inr (.inl h2))])
      clear h0' h1 hol hbx hbk hol1 h2
      go_wp2_with fail
      go_ret2
      rw [HG'.out]
      exact ⟨rfl, VM.out.many.lay.below⟩
    have d2 : ((kk : Int) == 0) = false := by simp; omega
    by_cases h3 : r < nk
    · have i3 : (r : Int) < (nk : Int) := by omega
      have HG' : Hid (R = none) := veil (by rw [← HG.out, goes_wrong hol (by unfold Wrong; rw [hke.out]; exact .inr (.inr (.inl (by have := HNK.out; have := HL.out; omega))))])
      clear h0' h1 hol hbx hbk hol1 h2 h3
      go_wp2_with fail
      go_ret2
      rw [HG'.out]
      exact ⟨rfl, VM.out.many.lay.below⟩
    have i3 : ¬ (r : Int) < (nk : Int) := by omega
    by_cases h4 : 64 ≤ acc.length
    · have i4 : (64 : Int) ≤ (acc.length : Int) := by omega
      have HG' : Hid (R = none) := veil (by rw [← HG.out, goes_wrong hol (by unfold Wrong; exact .inr (.inr (.inr h4)))])
      clear h0' h1 hol hbx hbk hol1 h2 h3 h4
      go_wp2_with fail
      go_ret2
      rw [HG'.out]
      exact ⟨rfl, VM.out.many.lay.below⟩
    have i4 : ¬ (64 : Int) ≤ (acc.length : Int) := by omega
    have hnw : Hid (¬ Wrong zs p acc.length) := veil (by unfold Wrong; rw [hke.out]; have := HL.out; have := HNK.out; omega)
    have hk1 : 1 ≤ kk := by omega
    have hc0 := (slc_of VS.out).2.2
    have hn8 := HNK.out
    have E44 : ∀ u, (Instr.sliceAt 26 (.slice (some a) r c0) (some (.int .i64 2)) (some (.int .i64 (nk : Int))) none).run Tryd.prog u = .ok (.slice (cutA (some a) c0 2) (nk - 2) (c0 - 2)) u := fun u => slice_lohi (A := some a) (n := r) (c := c0) (j := 2) (k := nk) (by omega) (by omega) u
    have E51 := fun u => slice_lo (A := some a) (n := r) (c := c0) (k := nk) (by omega) u
    have hu : Slc w (.slice (cutA (some a) c0 2) (nk - 2) (c0 - 2)) ((zs.drop (p + 2)).take (nk - 2)) := by
      have h := slc_front (slc_drop VS.out (k := 2) (by omega)) (k := nk - 2) (by omega)
      rw [List.drop_drop] at h
      exact h
    have hu2 : Hid (Slc w (.slice (cutA (some a) c0 nk) (r - nk) (c0 - nk)) (zs.drop (p + nk))) := veil (by
      have h := slc_drop VS.out (k := nk) (by omega)
      rw [List.drop_drop] at h
      exact h)
    obtain ⟨A1, n1, c1, w1, v2, w2, hr1, q1, hr2, M2⟩ := VM.out.drew.next x0 ((zs.drop (p + 2)).take (nk - 2)) _ (hu.keep (still_below VM.out.many.lay.below)) (by simp; omega) (by rw [HLL.out]; omega) 26 22
    have W1 := veil (show wr.drew.cell? a = some (.int .u8 x0) from ca)
    have q0 : Below wr.heap.size wr w1 := still_below0 q1
    have W2 := veil (cell_keep ca q0)
    have W3 := veil (cell_keep W2.out (below_new w1 (.cells #[.int .u8 x0, .slice A1 n1 c1] 29)))
    have W4 := veil (show w2.cell? a = some (.int .u8 x0) from by
      obtain ⟨a2, ha2, cw⟩ := (slc_rd VS.out).1 0 (by simp; omega)
      injection ha2 with ha2
      subst ha2
      refine cell_keep ?_ M2.many.lay.below
      rw [show a.add 0 = a by simp [Addr.add]] at cw
      rw [cw, ← HX0.out]
      simp [List.getD])
    have H1 := veil hr1
    have H2 := veil hr2
    have VM2 := veil M2
    clear VM M2 hr1 hr2 q1 q0 hu h0' h1 hol hbx hbk hol1 h2 h3 h4 hc0 hn8
    go_wp2_with fail
    clear ca cb d2
    go_region_held3 (fun w' => w'.cell? a = some (.int .u8 x0)) (first | exact W1.out | exact W2.out | exact W3.out | exact W4.out)
      (first
        | (rw [if_pos (by rfl)]; refine wp_append_of (.const (.slice none 0 0)) (.tmp 44) rfl rfl rfl H1.out ?_)
        | (rw [if_pos (by rfl)]; refine wp_append_of (.tmp 38) (.tmp 47) rfl rfl rfl H2.out ?_))
    clear W1 W2 W3 W4 H1 H2 E44
    go_wp2_with fail
    go_roundw
    case rel =>
      refine ⟨p + nk, r - nk, acc ++ [⟨x0, p + 2, nk - 2⟩], l ++ [⟨x0, A1, n1, c1⟩], cutA (some a) c0 nk, c0 - nk, by omega, rfl, hu2, veil ?_, veil ?_, veil ?_⟩
      · rw [plain_next]
        exact VM2.out
      · have := goes_next (by have := HL.out; omega) hnw.out
        rw [hke.out, HX0.out, HNK.out] at this
        rw [← this]
        exact HG.out
      · have := lie_next HZ.out HL2.out hnw.out
        rw [hke.out, HX0.out, HNK.out] at this
        exact this
    case measure => simp [lenS]; omega

end Go.Proofs.YtdebifkefpclaaaDoor.Oz
