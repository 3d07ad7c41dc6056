/-
  Of, of whatever lists of bytes: the checksum of all of them, one behind the other; what was there stays.
  Conditions: each list has at most as many bytes as the model's greatest length.
-/
import Derived.Test.YtoadligcfecpfaaSumFn
namespace Go.Proofs.Ytoadligcfecpfaa
open Go.RowKit Go.Shelf
attribute [local go_sem] Oper.semAt_some

theorem each_stops (n : Nat) (hn : 1 ≤ n) (Bs : Nat) (A : Option Addr) (m c : Nat) (zss : List (List U8)) (w0 w : World) (hm : zss.length = m) (hmm : m ≤ maxLen) (hBs : Bs < w.heap.size)
    (hc : w.cell? ⟨Bs, 0, none⟩ = some (.slice A m c)) (hB : Below w0.heap.size w0 w) (hL : Lst w0 A zss) :
    SeqStopsK Fence.wide n Try.prog 21 #[.pointer (some ⟨Bs, 0, none⟩)] (fun x : U8 => #[Value.int .u8 x.1]) (Below w0.heap.size) (fun ys => ys = zss.flatten) (fun pre => pre <+: zss.flatten) zss.flatten.length w :=
  fun l J Jx W hW _ _ hY h0 => each1_in n hn l Bs A m c zss w0 hm hmm J Jx hY W ((hW.cell (p := ⟨Bs, 0, none⟩) hBs).trans hc) hL (hB.trans (hW.mono hB.size)) h0

theorem raw_snoc (pre : List U8) (x : U8) : rd (tot (raw (pre ++ [x]))) = rd (tot (raw pre) + wt pre.length * x.1) := by
  rw [raw_append, ← raw_length pre, ← tot_snoc]
  rfl
theorem par_snoc (pre : List U8) (x : U8) : decide ((pre ++ [x]).length % 2 = 0) = !decide (pre.length % 2 = 0) := by
  rw [List.length_append, List.length_singleton]
  by_cases h : pre.length % 2 = 0
  · simp [h]; omega
  · simp [h]; omega

/-- what Of keeps between two rounds -/
def OfI (w : World) (g : Nat) (pre : List U8) (W : World) : Prop :=
  ((W.cell? ⟨g, 0, none⟩ = some (.int .u32 (rd (tot (raw pre)))) ∧ W.frozen? ⟨g, 0, none⟩ = false) ∧
    W.cell? ⟨g + 1, 0, none⟩ = some (.bool (decide (pre.length % 2 = 0))) ∧ W.frozen? ⟨g + 1, 0, none⟩ = false) ∧ Below g w W

set_option maxRecDepth 100000 in
set_option maxHeartbeats 4000000 in
theorem of_any (A : Option Addr) (m c : Nat) (zss : List (List U8)) (w : World) (hm : zss.length = m) (hmm : m ≤ maxLen) (hL : Lst w A zss) :
    Calls Try.prog 10 #[.slice A m c] w fun e w' => e = .returned (.int .u16 (ck (raw zss.flatten))) ∧ Below w.heap.size w w' := by
  have HM := veil hm
  have HL := veil hL
  have HN := veil hmm
  clear hm hL hmm
  refine (callsIn_wide (n := 5)).1 ?_
  refine callsIn_of_wp_marks Try.func10 rfl trivial ?_ rfl
  simp only [Try.ntmps10, List.size_toArray, List.length_cons, List.length_nil, Nat.reduceAdd, Nat.reduceSub, Array.replicate_succ, Array.replicate_zero, List.push_toArray, List.append_toArray, List.nil_append, List.cons_append]
  gi_wp2_with (refine ⟨trivial, ?_⟩; gi_at_call 17; refine (each_in _ _ _ _ _).mono ?_; rintro e w' ⟨rfl, rfl⟩)
  have r0 : Row (((w.alloc (.cells #[.int .u32 0] 45)).alloc (.cells #[.bool true] 4)).alloc (.cells #[.slice A m c] 44)) w.heap.size 45 #[.int .u32 0] := ((row_new rfl).keep (below_new _ _)).keep (below_new _ _)
  have r1 : Row (((w.alloc (.cells #[.int .u32 0] 45)).alloc (.cells #[.bool true] 4)).alloc (.cells #[.slice A m c] 44)) (w.heap.size + 1) 4 #[.bool true] := (row_new (by simp)).keep (below_new _ _)
  have r2 : Row (((w.alloc (.cells #[.int .u32 0] 45)).alloc (.cells #[.bool true] 4)).alloc (.cells #[.slice A m c] 44)) (w.heap.size + 1 + 1) 44 #[.slice A m c] := row_new (by simp)
  have hB0 : Below w.heap.size w (((w.alloc (.cells #[.int .u32 0] 45)).alloc (.cells #[.bool true] 4)).alloc (.cells #[.slice A m c] 44)) :=
    (((Below.refl _ w).alloc (Nat.le_refl _) _).alloc (by simp) _).alloc (by simp; omega) _
  refine wpIn_rangeFunc_ownF rfl (by decide) (gf := 21) (lb := #[.pointer (some ⟨w.heap.size + 1 + 1, 0, none⟩)]) rfl trivial (enters_of Try.func21 (by kernel_rfl) rfl)
    (each_stops 4 (by decide) (w.heap.size + 1 + 1) A m c zss w _ HM.out HN.out (by simp) (r2.cell 0) hB0 HL.out) belowK_t (belowK_b (by simp; omega)) (Below.refl _ _) (fun _ => rfl)
    (OfI w w.heap.size)
    (fun _ _ _ => False)
    (OwnFrom.and (Own.from (fun s A B row hs hg hr => ⟨⟨cell_kept hs.1.1 hg hr, (frozen_kept hs.1.1 hg hr).trans hs.1.2⟩, cell_kept hs.2.1 hg hr, (frozen_kept hs.2.1 hg hr).trans hs.2.2⟩) _) (ownFrom_below (Nat.le_refl _) (by simp; omega)))
    (fun _ _ _ _ _ hs _ _ => hs)
    ⟨⟨⟨r0.cell 0, r0.frozen 0⟩, r1.cell 0, r1.frozen 0⟩, hB0⟩
    (fun x => { tmps := #[.slice A m c, undef, .int .u16 0, .pointer (some ⟨w.heap.size, 0, none⟩), .pointer (some ⟨w.heap.size + 1, 0, none⟩), .int .u8 x.1, undef, .slice A m c, .func (.func 21) #[] #[.pointer (some ⟨w.heap.size + 1 + 1, 0, none⟩)], .int .u8 x.1, undef, undef, undef, undef, undef, undef, undef, undef, undef, undef, undef, undef, undef, undef], defers := [] }) ?assign ?body ?done ?stop
  case assign =>
    intro l x W K hK
    gi_wp2
    exact hK
  case body =>
    rintro l pre x W ⟨⟨⟨hc, hf⟩, hd, hg⟩, hB⟩ _
    obtain ⟨z, hz⟩ := x
    have hpn := par_snoc pre ⟨z, hz⟩
    have hr := rd_bound (tot (raw pre))
    have hrnd : Hid (∀ p u, p = wt pre.length * z → Calls Try.prog 18 #[.int .u32 (rd (tot (raw pre)) + p)] u fun e w' => e = .returned (.int .u32 (rd (tot (raw (pre ++ [⟨z, hz⟩]))))) ∧ u = w') := by
      intro p u hp
      have hw := wt_byte pre.length z hz
      have ht := tot_nonneg _ (raw_byt pre)
      refine (round_any _ u (by omega) (by omega)).mono ?_
      rintro e w' ⟨rfl, hw'⟩
      refine ⟨?_, hw'⟩
      rw [raw_snoc]
      by_cases hs : 65535 < rd (tot (raw pre)) + p
      · rw [if_pos hs, rd_up _ _ ht (by omega) hs (by omega), hp]
      · rw [if_neg hs, rd_low _ _ ht (by omega) hs, hp]
    obtain ⟨h0, h255⟩ := hz
    generalize rd (tot (raw pre)) = s at hc hr hrnd
    obtain ⟨s', hs'⟩ : ∃ s', rd (tot (raw (pre ++ [⟨z, ⟨h0, h255⟩⟩]))) = s' := ⟨_, rfl⟩
    rw [hs'] at hrnd
    have HS := veil hs'
    have h3 : 1 ≤ 5 - 1 - 1 := by omega
    have hwt : Hid (wt pre.length = if pre.length % 2 = 0 then 256 else 1) := rfl
    generalize hpar : decide (pre.length % 2 = 0) = par at hd hpn
    clear hs'
    have HP := veil hpn
    cases par
    · have hw1 : wt pre.length = 1 := by rw [hwt.out, if_neg (of_decide_eq_false hpar)]
      have hcall := veil (hrnd.out (z) W (by rw [hw1]; omega))
      clear hpar hwt hpn hw1 hrnd
      gi_wp2_with (refine ⟨trivial, ?_⟩; gi_at_call 18; refine (CallsIn.inRound l (callsIn_wide.2 hcall.out)).mono ?_; rintro e w' ⟨rfl, rfl⟩)
      refine ⟨(KeepsOthers.setCell _ _ _).trans (KeepsOthers.setCell _ _ _), ((Below.refl w.heap.size W).setCell (p := ⟨w.heap.size, 0, none⟩) (Nat.le_refl _) _).setCell (p := ⟨w.heap.size + 1, 0, none⟩) (by simp) _, ⟨⟨?_, ?_⟩, ?_, ?_⟩, (hB.setCell (p := ⟨w.heap.size, 0, none⟩) (Nat.le_refl _) _).setCell (p := ⟨w.heap.size + 1, 0, none⟩) (by simp) _⟩
      · rw [HS.out]
        refine (World.cell?_of_block (Below.heap_setCell _ ⟨w.heap.size + 1, 0, none⟩ _ w.heap.size (by simp))).trans ?_
        exact World.cell?_setCell_same' _ _ _ (by rw [hc]; rfl)
      · simp [hf]
      · rw [HP.out]
        refine World.cell?_setCell_same' _ _ _ ?_
        have e : (W.setCell ⟨w.heap.size, 0, none⟩ (.int .u32 s')).cell? ⟨w.heap.size + 1, 0, none⟩ = W.cell? ⟨w.heap.size + 1, 0, none⟩ := World.cell?_of_block (Below.heap_setCell W ⟨w.heap.size, 0, none⟩ _ (w.heap.size + 1) (by simp))
        rw [e, hd]
        rfl
      · simp [hg]
    · have hw1 : wt pre.length = 256 := by rw [hwt.out, if_pos (of_decide_eq_true hpar)]
      have hcall := veil (hrnd.out (z * 256) W (by rw [hw1]; omega))
      clear hpar hwt hpn hw1 hrnd
      gi_wp2_with (refine ⟨trivial, ?_⟩; gi_at_call 18; refine (CallsIn.inRound l (callsIn_wide.2 hcall.out)).mono ?_; rintro e w' ⟨rfl, rfl⟩)
      refine ⟨(KeepsOthers.setCell _ _ _).trans (KeepsOthers.setCell _ _ _), ((Below.refl w.heap.size W).setCell (p := ⟨w.heap.size, 0, none⟩) (Nat.le_refl _) _).setCell (p := ⟨w.heap.size + 1, 0, none⟩) (by simp) _, ⟨⟨?_, ?_⟩, ?_, ?_⟩, (hB.setCell (p := ⟨w.heap.size, 0, none⟩) (Nat.le_refl _) _).setCell (p := ⟨w.heap.size + 1, 0, none⟩) (by simp) _⟩
      · rw [HS.out]
        refine (World.cell?_of_block (Below.heap_setCell _ ⟨w.heap.size + 1, 0, none⟩ _ w.heap.size (by simp))).trans ?_
        exact World.cell?_setCell_same' _ _ _ (by rw [hc]; rfl)
      · simp [hf]
      · rw [HP.out]
        refine World.cell?_setCell_same' _ _ _ ?_
        have e : (W.setCell ⟨w.heap.size, 0, none⟩ (.int .u32 s')).cell? ⟨w.heap.size + 1, 0, none⟩ = W.cell? ⟨w.heap.size + 1, 0, none⟩ := World.cell?_of_block (Below.heap_setCell W ⟨w.heap.size, 0, none⟩ _ (w.heap.size + 1) (by simp))
        rw [e, hd]
        rfl
      · simp [hg]
  case done =>
    rintro D ys W hD rfl ⟨⟨⟨hc, _⟩, _⟩, hB⟩ hK
    have hr := rd_bound (tot (raw zss.flatten))
    have hq : Hid (ck (raw zss.flatten) = 65535 - rd (tot (raw zss.flatten))) := rfl
    generalize rd (tot (raw zss.flatten)) = s at hc hr hq
    gi_wp2
    refine ⟨by simp, .inl ⟨_, _, rfl, run_takeDeferred hK, ?_⟩⟩
    refine ⟨_, results_tmp rfl _ _ _, ?_, hB.trans (belowK_b (w := w) (Nat.le_refl _) W D _ _ (by simp at hD; omega) hK rfl rfl)⟩
    rw [hq.out]
    rfl
  case stop =>
    rintro D c pre W _ _ h _
    exact h.elim

theorem raws_of : ∀ (zss : List (List Int)), (∀ zs ∈ zss, Byt zs) → ∃ uss : List (List U8), uss.map raw = zss
  | [], _ => ⟨[], rfl⟩
  | z :: zs, h => by
    obtain ⟨us, e⟩ := raws_of zs (fun y hy => h y (by simp [hy]))
    obtain ⟨u, e2⟩ := raw_of z (h z (by simp))
    exact ⟨u :: us, by simp [e, e2]⟩
theorem raw_flatten (uss : List (List U8)) : raw uss.flatten = (uss.map raw).flatten := by simp only [raw, List.map_flatten]; rfl

/-- Of, its list lying in a row -/
theorem of_row (g c : Nat) (t : TypeId) (vs : List Value) (zss : List (List Int)) (w : World) (hr : Row w g t vs.toArray) (hl : vs.length = zss.length) (hb : ∀ zs ∈ zss, Byt zs ∧ zs.length ≤ maxLen) (hm : zss.length ≤ maxLen)
    (h : ∀ j, j < zss.length → Slc w (vs.getD j undef) (zss.getD j [])) :
    Calls Try.prog 10 #[.slice (some ⟨g, 0, none⟩) zss.length c] w fun e w' => e = .returned (.int .u16 (ck zss.flatten)) ∧ Below w.heap.size w w' := by
  obtain ⟨uss, rfl⟩ := raws_of zss (fun zs hz => (hb zs hz).1)
  rw [← raw_flatten]
  refine of_any _ _ c uss w (by simp) hm (fun j hj => ?_)
  have hj' : j < (uss.map raw).length := by simpa using hj
  have e : (uss.map raw).getD j [] = raw (uss.getD j []) := by simp [List.getD, hj]
  obtain ⟨B, d, hv, hrd, hd⟩ := (h j hj').slice
  have hlen := (hb (raw (uss.getD j [])) (by rw [← e]; simp [List.getD, hj]; exact ⟨_, List.getElem_mem hj, rfl⟩)).2
  rw [e] at hv hrd
  rw [raw_length] at hlen hv
  refine ⟨_, B, d, rfl, ?_, hrd, hlen⟩
  rw [← hv, show ((⟨g, 0, none⟩ : Addr).add j) = ⟨g, j, none⟩ by simp [Addr.add]; (try omega), hr.cell]
  simp [List.getD, show j < vs.length by omega]

theorem of0 (w : World) : Calls Try.prog 10 #[.slice none 0 0] w fun e w' => e = .returned (.int .u16 65535) ∧ Below w.heap.size w w' :=
  of_any none 0 0 [] w rfl (by unfold maxLen; omega) (fun j hj => by simp at hj)

theorem of1 (g : Nat) (t : TypeId) (v : Value) (zs : List Int) (w : World) (hr : Row w g t #[v]) (hs : Slc w v zs) (hb : Byt zs) (hl : zs.length ≤ maxLen) :
    Calls Try.prog 10 #[.slice (some ⟨g, 0, none⟩) 1 1] w fun e w' => e = .returned (.int .u16 (ck zs)) ∧ Below w.heap.size w w' := by
  have h := of_row g 1 t [v] [zs] w hr rfl (by simp; exact ⟨hb, hl⟩) (by unfold maxLen; simp) (fun j hj => by
    match j, hj with
    | 0, _ => exact hs)
  simpa using h

theorem of2 (g : Nat) (t : TypeId) (v u : Value) (zs ys : List Int) (w : World) (hr : Row w g t #[v, u]) (hs : Slc w v zs) (hb : Byt zs) (hl : zs.length ≤ maxLen) (hs2 : Slc w u ys) (hb2 : Byt ys) (hl2 : ys.length ≤ maxLen) :
    Calls Try.prog 10 #[.slice (some ⟨g, 0, none⟩) 2 2] w fun e w' => e = .returned (.int .u16 (ck (zs ++ ys))) ∧ Below w.heap.size w w' := by
  have h := of_row g 2 t [v, u] [zs, ys] w hr rfl (by simp; exact ⟨⟨hb, hl⟩, hb2, hl2⟩) (by unfold maxLen; simp) (fun j hj => by
    match j, hj with
    | 0, _ => exact hs
    | 1, _ => exact hs2)
  simpa using h

theorem of3 (g : Nat) (t : TypeId) (v u x : Value) (zs ys xs : List Int) (w : World) (hr : Row w g t #[v, u, x]) (hs : Slc w v zs) (hb : Byt zs) (hl : zs.length ≤ maxLen) (hs2 : Slc w u ys) (hb2 : Byt ys) (hl2 : ys.length ≤ maxLen)
    (hs3 : Slc w x xs) (hb3 : Byt xs) (hl3 : xs.length ≤ maxLen) :
    Calls Try.prog 10 #[.slice (some ⟨g, 0, none⟩) 3 3] w fun e w' => e = .returned (.int .u16 (ck (zs ++ (ys ++ xs)))) ∧ Below w.heap.size w w' := by
  have h := of_row g 3 t [v, u, x] [zs, ys, xs] w hr rfl (by simp; exact ⟨⟨hb, hl⟩, ⟨hb2, hl2⟩, hb3, hl3⟩) (by unfold maxLen; simp) (fun j hj => by
    match j, hj with
    | 0, _ => exact hs
    | 1, _ => exact hs2
    | 2, _ => exact hs3)
  simpa using h

end Go.Proofs.Ytoadligcfecpfaa
