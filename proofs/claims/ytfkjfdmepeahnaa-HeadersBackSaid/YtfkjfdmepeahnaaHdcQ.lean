/-
  A packet's bytes, by the code: whatever packet it is, or that it is too long.
  Conditions: addresses of sixteen bytes; numbers that their kinds hold; a body that reads as bytes, 16000000 at most.
-/
import Derived.Test.YtfkjfdmepeahnaaHdcP
namespace Go.Proofs.Ytfkjfdmepeahnaa.Hd
set_option maxRecDepth 100000
open Go.RowKit Ops

theorem wpList_copy_of {P : Program} {w w' : World} {ops : Array Oper} {rest : List Oper} {o : Oper} {a : Act} {Q : Exit → Act → World → Prop} {t t' : TypeId} {v u r : Value} (hw : Region.wanted o (yielded ops a.tmps) = true) (s x : Operand)
    (ho : o.op = .call { callee := .builtin .copy, args := #[s, x], argTypes := #[t, t'] }) (hs : a.eval s = v) (hx : a.eval x = u)
    (hrun : (Builtin.copy_ #[t, t'] o.type #[v, u]).run P w = .ok r w') (h : wpList P ops Q rest (a.put o.dst r) w') : wpList P ops Q (o :: rest) a w := by
  refine wpList_wanted hw fun K hK => ?_
  unfold Oper.wp execOp
  simp only [ho, resolve, invoke, builtin, Sem.run_bind, Sem.run_pure, Result.andThen_ok, List.map_toArray, List.map_cons, List.map_nil, hs, hx, hrun]
  exact hK _ _ h
/-- more bytes into a row that is filled from the left -/
theorem copy_more {w : World} {g o N c n c2 : Nat} {t : TypeId} {xs zs : List Int} {rest : List Value} {A B : Option Addr} (ty : TypeId) (hs : Slc w (.slice A n c2) zs) (hg : Row w g t (bv xs ++ rest).toArray) (ho : xs.length = o) (hB : 0 < n → B = some ⟨g, o, none⟩) (hn : n ≤ N) (hr : n ≤ rest.length) :
    (Builtin.copy_ #[28, 28] ty #[.slice B N c, .slice A n c2]).run Try.prog w = .ok (goInt n) (w.setRow g (bv (xs ++ zs) ++ rest.drop n).toArray) := by
  have hl := (slc_of hs).1
  have h := copy_into ty hs hg hB hn (by rw [List.length_append, bv_length, ho]; omega) (c := c)
  have e : (bv xs ++ rest).take o ++ bv zs ++ (bv xs ++ rest).drop (o + n) = bv (xs ++ zs) ++ rest.drop n := by
    have e1 : (bv xs).length = o := by rw [bv_length, ho]
    have e2 : (bv xs ++ rest).take o = bv xs := List.take_left' e1
    have e3 : (bv xs ++ rest).drop (o + n) = rest.drop n := by rw [← List.drop_drop, List.drop_left' e1]
    rw [e2, e3]
    simp [bv, List.map_append]
  rwa [e] at h

/-- a part's header -/
def ptB (nx : Int) (f : Fg) : List Int := [nx, 0] ++ be (f.off * 8 + (if f.more then 1 else 0)) 2 ++ be f.id 4
theorem ptB_len (nx : Int) (f : Fg) : (ptB nx f).length = 8 := by simp [ptB, be_length]
theorem partHead_any (nx : Int) (f : Fg) (w : World) (hf : f.is = true) (bi : 0 ≤ f.id ∧ f.id < 4294967296) (bo : 0 ≤ f.off ∧ f.off < 65536) : Calls Try.prog 27 #[.int .u8 nx, .agg (fgc f).toArray] w (Whole w (ptB nx f) 8) := by
  obtain ⟨is_, id, off, more⟩ := f
  simp only at hf bi bo
  subst hf
  cases more with
  | true => exact partHead_true nx id off w bi bo
  | false =>
    have h := partHead_false nx id off w bi bo
    have e : ptB nx { is := true, id := id, off := off, more := false } = [nx, 0] ++ be (off * 8) 2 ++ be id 4 := by simp [ptB]
    rw [e]
    exact h
/-- all of a packet's bytes: what the code lays one behind the other -/
theorem pb_parts {k : Pk} {zs hb : List Int} {m : Nat} (V : Holds k) (hok : OkP k zs.length) (hm : m = hb.length + zs.length) (hh : hb = alertP k ++ (if k.frag.is then ptB k.next k.frag else [])) : [96, 0, 0, 0] ++ be (m : Int) 2 ++ [firstP k, k.hops] ++ k.s ++ k.d ++ hb ++ zs = pb k zs := by
  have e1 : (if k.frag.is then ptB k.next k.frag else []) = partP k := by
    unfold ptB partP wordP
    split
    · rename_i hi
      have h1 := hok.2 hi
      have h2 := V.off
      have e : be (k.frag.off * 8 + (if k.frag.more = true then 1 else 0)) 2 = [(8 * k.frag.off + (if k.frag.more = true then 1 else 0)) / 256, (8 * k.frag.off + (if k.frag.more = true then 1 else 0)) % 256] := by
        simp only [be]
        split <;> simp <;> omega
      rw [e]
      simp
    · rfl
  have hlen : (m : Int) = sizeP k zs.length := by
    rw [hm, hh]
    unfold sizeP alertP
    rw [e1]
    unfold partP
    split <;> split <;> simp [be_length] <;> omega
  have h3 := hok.1
  have e2 : be (m : Int) 2 = [sizeP k zs.length / 256, sizeP k zs.length % 256] := by
    rw [← hlen] at h3 ⊢
    simp only [be]
    simp
    omega
  rw [e2, hh, e1]
  simp [pb, headP]
/-- bytes of the call's own, whole, and that all is well -/
def PutOk (w : World) (xs : List Int) (e : Ending) (w' : World) : Prop := ∃ g n, w.heap.size ≤ g ∧ n = xs.length ∧ e = .returned (.tuple #[.slice (some ⟨g, 0, none⟩) n n, .int .i64 0]) ∧ Row w' g 5 (bv xs).toArray ∧ Below w.heap.size w w'
def PutNo (w : World) (e : Ending) (w' : World) : Prop := e = .returned (.tuple #[.slice none 0 0, .int .i64 3]) ∧ Below w.heap.size w w'

theorem wpList_slice_of {P : Program} {w w2 : World} {ops : Array Oper} {rest : List Oper} {op : Oper} {a : Act} {Q : Exit → Act → World → Prop} {u l v : Value} (hw : Region.wanted op (yielded ops a.tmps) = true) (t : TypeId) (x lo : Operand) (ho : op.op = .slice t x (some lo) none none) (hx : a.eval x = u) (hl : a.eval lo = l)
    (hrun : (Instr.sliceAt t u (some l) none none).run P w = .ok v w2) (h : wpList P ops Q rest (a.put op.dst v) w2) : wpList P ops Q (op :: rest) a w := by
  refine wpList_wanted hw fun K hK => ?_
  unfold Oper.wp execOp
  simp only [ho, hx, hl, hrun, Option.map_some, Option.map_none, Sem.run_bind, Sem.run_pure, Result.andThen_ok]
  exact hK _ _ h
theorem yieldsIf_slice {P : Program} {ops : Array Oper} {S : World → Prop} {op : Oper} {a : Act} {u l v : Value} (hw : Region.wanted op (yielded ops a.tmps) = true) (t : TypeId) (x lo : Operand) (ho : op.op = .slice t x (some lo) none none) (hx : a.eval x = u) (hl : a.eval lo = l)
    (hrun : ∀ w, (Instr.sliceAt t u (some l) none none).run P w = .ok v w) : YieldsIf P ops S op v a :=
  .inl ⟨hw, fun w _ => by
    unfold execOp
    simp only [ho, hx, hl, hrun, Option.map_some, Option.map_none, Sem.run_bind, Sem.run_pure, Result.andThen_ok]⟩

set_option linter.unusedSimpArgs false in
set_option maxHeartbeats 8000000 in
theorem codePut_nn (k : Pk) (A : Option Addr) (n c : Nat) (zs : List Int) (w : World) (M : Ends k) (V : Holds k) (hs : Slc w (.slice A n c) zs) (hok : OkP k n) (ha : k.alert = false) (hi : k.frag.is = false) :
    Calls Try.prog 11 #[pv k (.slice A n c)] w (PutOk w (pb k zs)) := by
  have hzl := (slc_of hs).1
  obtain ⟨m, hm⟩ : ∃ m, 0 + n = m := ⟨_, rfl⟩
  obtain ⟨N, hN⟩ : ∃ N, 40 + m = N := ⟨_, rfl⟩
  have hsz := hok.1
  unfold sizeP at hsz
  rw [ha, hi] at hsz
  simp only [if_true, if_false, Bool.false_eq_true] at hsz
  have hM : m ≤ 65535 := by omega
  have hpb := pb_parts (k := k) (zs := zs) (hb := ([] : List Int)) (m := m) V (by rw [hzl]; exact hok) (by simp [hzl]; omega) (by rw [hi]; simp [alertP, behindP, ha, hi])
  have hfp : firstP k = k.next := by simp [firstP, behindP, ha, hi]
  rw [hfp] at hpb
  obtain ⟨F, hFF⟩ : ∃ F, [96, 0, 0, 0] ++ be (m : Int) 2 ++ [k.next, k.hops] ++ k.s ++ k.d = F := ⟨_, rfl⟩
  rw [hFF] at hpb
  have VFF := veil hFF
  have VPB := veil hpb
  clear hpb hfp hok hFF
  have i1 : ¬ (65535 : Int) < (m : Int) := by omega
  have e1 : (n : Int) = (m : Int) := by omega
  have e2 : 40 + (m : Int) = (N : Int) := by omega
  have hw1 : IntKind.i64.wrap ((n : Int)) = (m : Int) := by rw [IntKind.wrap_i64]; omega
  have hw2 : IntKind.i64.wrap (40 + (m : Int)) = (N : Int) := by rw [IntKind.wrap_i64]; omega
  have hw3 : IntKind.i64.wrap (m : Int) = (m : Int) := by rw [IntKind.wrap_i64]; omega
  have VHM := veil hm
  have VHN := veil hN
  clear hm hN hsz
  have Y := (Lay.begin w).new (pc k (.slice A n c)) 30 (g := w.heap.size) rfl
  have VM := veil M
  have VV := veil V
  have HS := veil hs
  have y1 : (w.alloc (.cells (pc k (.slice A n c)).toArray 30)).cell? ⟨w.heap.size, 38, none⟩ = some (.int .u8 k.next) := Y.look mem0 (pc_next M)
  have y2 : (w.alloc (.cells (pc k (.slice A n c)).toArray 30)).cell? ⟨w.heap.size, 34, none⟩ = some (.bool false) := by have := Y.range mem0 (pc_frag M) 0 _ rfl; rw [← hi]; exact this
  have d1 : (w.alloc (.cells (pc k (.slice A n c)).toArray 30)).cell? ⟨w.heap.size, 33, none⟩ = some (.bool false) := by have := Y.look mem0 (pc_alert VM.out); rw [ha] at this; exact this
  have SH : Slc (w.alloc (.cells (pc k (.slice A n c)).toArray 30)) (.slice none 0 0) [] := .inl ⟨rfl, rfl⟩
  have d2 : (w.alloc (.cells (pc k (.slice A n c)).toArray 30)).cell? ⟨w.heap.size, 39, none⟩ = some (.slice A n c) := Y.look mem0 (pc_body VM.out)
  have d3 : (w.alloc (.cells (pc k (.slice A n c)).toArray 30)).cell? ⟨w.heap.size, 34, none⟩ = some (.bool false) := by have := Y.range mem0 (pc_frag VM.out) 0 _ rfl; rw [← hi]; exact this
  have d4 : (w.alloc (.cells (pc k (.slice A n c)).toArray 30)).cell? ⟨w.heap.size, 36, none⟩ = some (.int .u16 k.frag.off) := Y.range mem0 (pc_frag VM.out) 2 _ rfl
  have Yz := Y.newA (zeros N) 5 (g := (w.alloc (.cells (pc k (.slice A n c)).toArray 30)).heap.size) rfl
  obtain ⟨g, hg⟩ : ∃ g, (w.alloc (.cells (pc k (.slice A n c)).toArray 30)).heap.size = g := ⟨_, rfl⟩
  have HM := run_make_u8 N (by have := VHN.out; omega) (w.alloc (.cells (pc k (.slice A n c)).toArray 30))
  rw [hg] at Yz HM
  have hqz := below_new (w.alloc (.cells (pc k (.slice A n c)).toArray 30)) (.cells (zeros N) 5)
  have VHG := veil hg
  obtain ⟨w5, hw5⟩ : ∃ w5, (w.alloc (.cells (pc k (.slice A n c)).toArray 30)).alloc (.cells (zeros N) 5) = w5 := ⟨_, rfl⟩
  rw [hw5] at Yz HM hqz
  have P1 := veil (pktAt Yz mem1 VM.out).all
  have KF := veil (fixedHead_any k (.slice A n c) m (k.next) w5 VM.out hM)
  rw [VFF.out] at KF
  have hbl : (([] : List Int)).length = 0 := by simp
  obtain ⟨hb, hhb⟩ : ∃ hb, ([] : List Int) = hb := ⟨_, rfl⟩
  rw [hhb] at SH VPB hbl
  have VSH := veil SH
  have VYZ := veil Yz
  replace HM := veil HM
  have VQZ := veil hqz
  have VBL := veil hbl
  have VZL := veil hzl
  clear Y Yz SH hqz hbl hhb hg hw5 hs M V
  go_enter Try.func11, Try.ntmps11
  go_wp2_with (first
    | (at_make; refine wpList_value_of rfl (Instr.makeSlice 28 (.int .i64 N) (.int .i64 N)) rfl HM.out ?_)
    | (refine wpList_load_of rfl _ rfl rfl P1.out ?_))
  refine (KF.out).mono ?_
  rintro e w7 ⟨A7, m7, c7, rfl, hm7, own7, q7⟩
  have hF : F.length = 40 := by rw [← VFF.out]; simp [be_length, VM.out.s, VM.out.d]
  rw [hF] at hm7
  subst hm7
  have VPB2 := VPB.out
  have Y7 := VYZ.out.keep q7
  have S7 := own7.slc
  have hzn : (zeros N).toList.length = N := by rw [zeros_list]; simp
  have C1 := copy_more (xs := []) (o := 0) (N := N) (c := N) (B := some ⟨g, 0, none⟩) 3 S7 (show Row w7 g 5 (bv [] ++ (zeros N).toList).toArray from Y7.at mem0) rfl (fun _ => rfl) (by have := VHN.out; omega) (by rw [hzn]; have := VHN.out; omega)
  have Y8 := Y7.put 0 rfl (bv ([] ++ F) ++ (zeros N).toList.drop 40)
  simp only [List.set_cons_zero] at Y8
  have hgu : g ≤ w7.heap.size := Nat.le_of_lt (Y7.lt mem0)
  have q8 := below_setRow (VQZ.out.trans (q7.mono VQZ.out.size)) g (bv ([] ++ F) ++ (zeros N).toList.drop 40).toArray (Nat.le_of_eq VHG.out)
  obtain ⟨w8, hw8⟩ : ∃ w8, w7.setRow g (bv ([] ++ F) ++ (zeros N).toList.drop 40).toArray = w8 := ⟨_, rfl⟩
  rw [hw8] at C1 Y8 q8
  have hcut : 0 < m → cutA (some ⟨g, 0, none⟩) N 40 = some ⟨g, 40, none⟩ := fun h => by unfold cutA; rw [if_neg (by have := VHN.out; omega)]; simp [Addr.add]
  have SL1 := slice_lo (A := some ⟨g, 0, none⟩) (n := N) (c := N) (k := 40) (by have := VHN.out; omega)
  rw [show N - 40 = m by have := VHN.out; omega] at SL1
  have C2 := copy_more (xs := [] ++ F) (o := 40) (N := m) (c := m) (B := cutA (some ⟨g, 0, none⟩) N 40) 3 (VSH.out.keep q8) (Y8.at mem0) (by rw [List.nil_append]; exact hF) (fun h => hcut (by have := VHM.out; omega)) (by have := VHM.out; omega) (by rw [List.length_drop, hzn]; have := VHN.out; have := VHM.out; omega)
  have Y9 := Y8.put 0 rfl (bv ([] ++ F ++ hb) ++ ((zeros N).toList.drop 40).drop 0)
  simp only [List.set_cons_zero] at Y9
  obtain ⟨w9, hw9⟩ : ∃ w9, w8.setRow g (bv ([] ++ F ++ hb) ++ ((zeros N).toList.drop 40).drop 0).toArray = w9 := ⟨_, rfl⟩
  rw [hw9] at C2 Y9
  have YD := Y9.drew
  have D1 := veil (YD.look mem1 (pc_body VM.out))
  have SL2 := slice_lo (A := some ⟨g, 0, none⟩) (n := N) (c := N) (k := 40) (by have := VHN.out; have := VHM.out; omega)
  rw [show N - 40 = n by have := VHN.out; have := VHM.out; omega] at SL2
  have C3 := copy_more (xs := [] ++ F ++ hb) (o := 40) (N := n) (c := n) (B := cutA (some ⟨g, 0, none⟩) N 40) 3 (HS.out.keep YD.below) (YD.at mem0) (by rw [List.nil_append, List.length_append, hF, VBL.out]) (fun h => by unfold cutA; rw [if_neg (by have := VHN.out; have := VHM.out; omega)]; simp [Addr.add]) (Nat.le_refl _) (by rw [List.length_drop, List.length_drop, hzn]; have := VHN.out; have := VHM.out; omega)
  have Y10 := YD.put 0 rfl (bv ([] ++ F ++ hb ++ zs) ++ (((zeros N).toList.drop 40).drop 0).drop n)
  simp only [List.set_cons_zero] at Y10
  obtain ⟨w10, hw10⟩ : ∃ w10, w9.drew.setRow g (bv ([] ++ F ++ hb ++ zs) ++ (((zeros N).toList.drop 40).drop 0).drop n).toArray = w10 := ⟨_, rfl⟩
  rw [hw10] at C3 Y10
  have D2 := veil (Y10.look mem1 (pc_body VM.out))
  have hend : bv ([] ++ F ++ hb ++ zs) ++ (((zeros N).toList.drop 40).drop 0).drop n = bv (pb k zs) := by
    rw [List.drop_of_length_le (by rw [List.length_drop, List.length_drop, hzn]; have := VHN.out; have := VHM.out; omega), List.append_nil, List.nil_append, VPB2]
  rw [hend] at Y10
  have hNl : N = (pb k zs).length := by rw [← VPB2, List.length_append, List.length_append, hF, VBL.out, VZL.out]; have := VHN.out; have := VHM.out; omega
  have hwg : w.heap.size ≤ g := VYZ.out.own _ mem0
  have VC1 := veil C1
  have VC2 := veil C2
  have VC3 := veil C3
  have VS1 := veil SL1
  have VS2 := veil SL2
  have V10 := veil Y10
  have VNL := veil hNl
  clear KF HM P1 own7 Y7 S7 C1 Y8 q8 hw8 hcut SL1 C2 Y9 hw9 YD SL2 C3 Y10 hw10 hend hNl hF VPB2 hzn hgu q7 VYZ VQZ VSH HS VPB
  simp only []
  rename_i aK
  refine aK _ _ ?_
  refine wpList_copy_of rfl (.tmp 46) (.tmp 50) rfl rfl rfl VC1.out ?_
  go_wp2_with (first
    | (refine wpList_copy_of rfl (.tmp 55) (.tmp 56) rfl rfl rfl VC2.out ?_)
    | (refine wpList_slice_of rfl _ (.tmp 53) (.tmp 54) rfl rfl rfl (VS1.out _) ?_))
  refine wp_region_noPanic ?_
  refine wp_region_held_drew (S := (fun w' => w'.cell? ⟨w.heap.size, 39, none⟩ = some (.slice A n c))) (by kernel_rfl) D1.out (fun hHeld => ?_)
  refine wpAnyH_take (i := 0) (v := ?_) (by rfl) (by kernel_rfl) (by kernel_rfl) (by kernel_rfl) (fun _ _ _ h => h) (Or.inl ⟨by rfl, ?_⟩) hHeld ?_
  rotate_left
  · intro w' hSw
    (try dsimp only at hSw)
    simp only [List.getElem_toArray, List.getElem_cons_zero, List.getElem_cons_succ]
    go_simp
    all_goals (try with_reducible rfl)
  try simp only [Act.put, List.setIfInBounds_toArray, List.set_cons_zero, List.set_cons_succ, List.getElem_toArray, List.getElem_cons_zero, List.getElem_cons_succ]
  refine wpAnyH_take (i := 1) (v := ?_) (by rfl) (by kernel_rfl) (by kernel_rfl) (by kernel_rfl) (fun _ _ _ h => h) (Or.inl ⟨by rfl, ?_⟩) hHeld ?_
  rotate_left
  · intro w' hSw
    (try dsimp only at hSw)
    simp only [List.getElem_toArray, List.getElem_cons_zero, List.getElem_cons_succ]
    go_simp
    all_goals (try with_reducible rfl)
  try simp only [Act.put, List.setIfInBounds_toArray, List.set_cons_zero, List.set_cons_succ, List.getElem_toArray, List.getElem_cons_zero, List.getElem_cons_succ]
  refine wpAnyH_take (i := 2) (v := _) (by rfl) (by kernel_rfl) (by kernel_rfl) (by kernel_rfl) (fun _ _ _ h => h) (yieldsIf_slice (by rfl) _ (.tmp 59) (.tmp 60) (by rfl) rfl rfl VS2.out) hHeld ?_
  try simp only [Act.put, List.setIfInBounds_toArray, List.set_cons_zero, List.set_cons_succ, List.getElem_toArray, List.getElem_cons_zero, List.getElem_cons_succ]
  refine wpAnyH_take (i := 3) (v := ?_) (by rfl) (by kernel_rfl) (by kernel_rfl) (by kernel_rfl) (fun _ _ _ h => h) (Or.inl ⟨by rfl, ?_⟩) hHeld ?_
  rotate_left
  · intro w' hSw
    (try dsimp only at hSw)
    simp only [List.getElem_toArray, List.getElem_cons_zero, List.getElem_cons_succ]
    go_simp
    all_goals (try with_reducible rfl)
  try simp only [Act.put, List.setIfInBounds_toArray, List.set_cons_zero, List.set_cons_succ, List.getElem_toArray, List.getElem_cons_zero, List.getElem_cons_succ]
  refine wpAnyH_take (i := 4) (v := ?_) (by rfl) (by kernel_rfl) (by kernel_rfl) (by kernel_rfl) (fun _ _ _ h => h) (Or.inl ⟨by rfl, ?_⟩) hHeld ?_
  rotate_left
  · intro w' hSw
    (try dsimp only at hSw)
    simp only [List.getElem_toArray, List.getElem_cons_zero, List.getElem_cons_succ]
    go_simp
    all_goals (try with_reducible rfl)
  try simp only [Act.put, List.setIfInBounds_toArray, List.set_cons_zero, List.set_cons_succ, List.getElem_toArray, List.getElem_cons_zero, List.getElem_cons_succ]
  refine wpAnyH_ready (rs := [5]) (by kernel_rfl) (by simp) ?_
  refine AllReadyH.cons (by rfl) (fun K hK => ?_) AllReadyH.nil
  simp only [List.getElem_toArray, List.getElem_cons_zero, List.getElem_cons_succ]
  refine wp_copy_of (.tmp 61) (.tmp 63) rfl rfl rfl VC3.out ?_
  (try dsimp only)
  refine hK.out _ _ D2.out (fun hHeld => ?_)
  clear hK K
  try simp only [Act.put, List.setIfInBounds_toArray, List.set_cons_zero, List.set_cons_succ, List.getElem_toArray, List.getElem_cons_zero, List.getElem_cons_succ]
  refine wpAnyH_done (by kernel_rfl) ?_ _
  refine NoPanic.normal ?_
  clear hHeld
  go_wp2_with fail
  refine bodyPost_ret (results_tmp2 rfl _ _ _) rfl ?_
  exact ⟨g, N, hwg, VNL.out, rfl, V10.out.at mem0, V10.out.below⟩

set_option linter.unusedSimpArgs false in
set_option maxHeartbeats 8000000 in
theorem codePut_nn_no (k : Pk) (A : Option Addr) (n c : Nat) (zs : List Int) (w : World) (M : Ends k) (V : Holds k) (hs : Slc w (.slice A n c) zs) (hok : ¬ OkP k n) (hn : n ≤ 16000000) (ha : k.alert = false) (hi : k.frag.is = false) :
    Calls Try.prog 11 #[pv k (.slice A n c)] w (PutNo w) := by
  have hzl := (slc_of hs).1
  obtain ⟨m, hm⟩ : ∃ m, 0 + n = m := ⟨_, rfl⟩
  obtain ⟨N, hN⟩ : ∃ N, 40 + m = N := ⟨_, rfl⟩
  unfold OkP sizeP at hok
  rw [ha, hi] at hok
  simp only [if_true, if_false, Bool.false_eq_true, false_implies, and_true, forall_const] at hok
  have hlong : (65535 : Int) < (m : Int) := by omega
  clear hok
  have hM : m ≤ 16000016 := by omega
  have e1 : (n : Int) = (m : Int) := by omega
  have e2 : 40 + (m : Int) = (N : Int) := by omega
  have hw1 : IntKind.i64.wrap ((n : Int)) = (m : Int) := by rw [IntKind.wrap_i64]; omega
  have hw2 : IntKind.i64.wrap (40 + (m : Int)) = (N : Int) := by rw [IntKind.wrap_i64]; omega
  have hw3 : IntKind.i64.wrap (m : Int) = (m : Int) := by rw [IntKind.wrap_i64]; omega
  have VHM := veil hm
  have VHN := veil hN
  clear hm hN
  have Y := (Lay.begin w).new (pc k (.slice A n c)) 30 (g := w.heap.size) rfl
  have VM := veil M
  have VV := veil V
  have HS := veil hs
  have y1 : (w.alloc (.cells (pc k (.slice A n c)).toArray 30)).cell? ⟨w.heap.size, 38, none⟩ = some (.int .u8 k.next) := Y.look mem0 (pc_next M)
  have y2 : (w.alloc (.cells (pc k (.slice A n c)).toArray 30)).cell? ⟨w.heap.size, 34, none⟩ = some (.bool false) := by have := Y.range mem0 (pc_frag M) 0 _ rfl; rw [← hi]; exact this
  have d1 : (w.alloc (.cells (pc k (.slice A n c)).toArray 30)).cell? ⟨w.heap.size, 33, none⟩ = some (.bool false) := by have := Y.look mem0 (pc_alert VM.out); rw [ha] at this; exact this
  have SH : Slc (w.alloc (.cells (pc k (.slice A n c)).toArray 30)) (.slice none 0 0) [] := .inl ⟨rfl, rfl⟩
  have d2 : (w.alloc (.cells (pc k (.slice A n c)).toArray 30)).cell? ⟨w.heap.size, 39, none⟩ = some (.slice A n c) := Y.look mem0 (pc_body VM.out)
  have d3 : (w.alloc (.cells (pc k (.slice A n c)).toArray 30)).cell? ⟨w.heap.size, 34, none⟩ = some (.bool false) := by have := Y.range mem0 (pc_frag VM.out) 0 _ rfl; rw [← hi]; exact this
  have d4 : (w.alloc (.cells (pc k (.slice A n c)).toArray 30)).cell? ⟨w.heap.size, 36, none⟩ = some (.int .u16 k.frag.off) := Y.range mem0 (pc_frag VM.out) 2 _ rfl
  have VQ := veil Y.below
  clear Y SH hs M V
  go_enter Try.func11, Try.ntmps11
  go_wp2_with fail
  refine bodyPost_ret (results_tmp2 rfl _ _ _) rfl ?_
  exact ⟨rfl, VQ.out⟩

set_option linter.unusedSimpArgs false in
set_option maxHeartbeats 8000000 in
theorem codePut_np (k : Pk) (A : Option Addr) (n c : Nat) (zs : List Int) (w : World) (M : Ends k) (V : Holds k) (hs : Slc w (.slice A n c) zs) (hok : OkP k n) (ha : k.alert = false) (hi : k.frag.is = true) :
    Calls Try.prog 11 #[pv k (.slice A n c)] w (PutOk w (pb k zs)) := by
  have hzl := (slc_of hs).1
  obtain ⟨m, hm⟩ : ∃ m, 8 + n = m := ⟨_, rfl⟩
  obtain ⟨N, hN⟩ : ∃ N, 40 + m = N := ⟨_, rfl⟩
  have hsz := hok.1
  unfold sizeP at hsz
  rw [ha, hi] at hsz
  simp only [if_true, if_false, Bool.false_eq_true] at hsz
  have hM : m ≤ 65535 := by omega
  have hoff := hok.2 hi
  have hpb := pb_parts (k := k) (zs := zs) (hb := ptB k.next k.frag) (m := m) V (by rw [hzl]; exact hok) (by simp [hzl, ptB_len]; omega) (by rw [hi]; simp [alertP, behindP, ha, hi])
  have hfp : firstP k = 44 := by simp [firstP, behindP, ha, hi]
  rw [hfp] at hpb
  obtain ⟨F, hFF⟩ : ∃ F, [96, 0, 0, 0] ++ be (m : Int) 2 ++ [44, k.hops] ++ k.s ++ k.d = F := ⟨_, rfl⟩
  rw [hFF] at hpb
  have VFF := veil hFF
  have VPB := veil hpb
  clear hpb hfp hok hFF
  have i1 : ¬ (65535 : Int) < (m : Int) := by omega
  have i2 : ¬ (8191 : Int) < k.frag.off := by omega
  have e1 : 8 + (n : Int) = (m : Int) := by omega
  have e2 : 40 + (m : Int) = (N : Int) := by omega
  have hw1 : IntKind.i64.wrap (8 + (n : Int)) = (m : Int) := by rw [IntKind.wrap_i64]; omega
  have hw2 : IntKind.i64.wrap (40 + (m : Int)) = (N : Int) := by rw [IntKind.wrap_i64]; omega
  have hw3 : IntKind.i64.wrap (m : Int) = (m : Int) := by rw [IntKind.wrap_i64]; omega
  have VHM := veil hm
  have VHN := veil hN
  clear hm hN hsz
  have Y := (Lay.begin w).new (pc k (.slice A n c)) 30 (g := w.heap.size) rfl
  have VM := veil M
  have VV := veil V
  have HS := veil hs
  have y1 : (w.alloc (.cells (pc k (.slice A n c)).toArray 30)).cell? ⟨w.heap.size, 38, none⟩ = some (.int .u8 k.next) := Y.look mem0 (pc_next M)
  have y2 : (w.alloc (.cells (pc k (.slice A n c)).toArray 30)).cell? ⟨w.heap.size, 34, none⟩ = some (.bool true) := by have := Y.range mem0 (pc_frag M) 0 _ rfl; rw [← hi]; exact this
  have P0 := veil (pktAt Y mem0 M).frag
  have KP := veil (partHead_any k.next k.frag (w.alloc (.cells (pc k (.slice A n c)).toArray 30)) hi V.id V.off)
  have VY := veil Y
  clear Y hs M V
  go_enter Try.func11, Try.ntmps11
  go_wp2_with (refine wpList_load_of rfl _ rfl rfl P0.out ?_)
  refine (KP.out).mono ?_
  rintro e w1 ⟨g1, hg1, rfl, r1, q1⟩
  have Y := VY.out.got q1 r1 hg1
  clear KP P0 VY y1 y2 r1 q1
  have d1 : w1.cell? ⟨w.heap.size, 33, none⟩ = some (.bool false) := by have := Y.look mem1 (pc_alert VM.out); rw [ha] at this; exact this
  have SH : Slc w1 (.slice (some ⟨g1, 0, none⟩) 8 8) (ptB k.next k.frag) := .inr ⟨_, 8, by rw [ptB_len], rd_whole (Y.at mem0), Nat.le_of_eq (ptB_len _ _)⟩
  have d2 : w1.cell? ⟨w.heap.size, 39, none⟩ = some (.slice A n c) := Y.look mem1 (pc_body VM.out)
  have d3 : w1.cell? ⟨w.heap.size, 34, none⟩ = some (.bool true) := by have := Y.range mem1 (pc_frag VM.out) 0 _ rfl; rw [← hi]; exact this
  have d4 : w1.cell? ⟨w.heap.size, 36, none⟩ = some (.int .u16 k.frag.off) := Y.range mem1 (pc_frag VM.out) 2 _ rfl
  have Yz := Y.newA (zeros N) 5 (g := w1.heap.size) rfl
  obtain ⟨g, hg⟩ : ∃ g, w1.heap.size = g := ⟨_, rfl⟩
  have HM := run_make_u8 N (by have := VHN.out; omega) w1
  rw [hg] at Yz HM
  have hqz := below_new w1 (.cells (zeros N) 5)
  have VHG := veil hg
  obtain ⟨w5, hw5⟩ : ∃ w5, w1.alloc (.cells (zeros N) 5) = w5 := ⟨_, rfl⟩
  rw [hw5] at Yz HM hqz
  have P1 := veil (pktAt Yz mem2 VM.out).all
  have KF := veil (fixedHead_any k (.slice A n c) m (44) w5 VM.out hM)
  rw [VFF.out] at KF
  have hbl : (ptB k.next k.frag).length = 8 := by simp [ptB_len]
  obtain ⟨hb, hhb⟩ : ∃ hb, ptB k.next k.frag = hb := ⟨_, rfl⟩
  rw [hhb] at SH VPB hbl
  have VSH := veil SH
  have VYZ := veil Yz
  replace HM := veil HM
  have VQZ := veil hqz
  have VBL := veil hbl
  have VZL := veil hzl
  clear Y Yz SH hqz hbl hhb hg hw5
  go_wp2_with (first
    | (at_make; refine wpList_value_of rfl (Instr.makeSlice 28 (.int .i64 N) (.int .i64 N)) rfl HM.out ?_)
    | (refine wpList_load_of rfl _ rfl rfl P1.out ?_))
  refine (KF.out).mono ?_
  rintro e w7 ⟨A7, m7, c7, rfl, hm7, own7, q7⟩
  have hF : F.length = 40 := by rw [← VFF.out]; simp [be_length, VM.out.s, VM.out.d]
  rw [hF] at hm7
  subst hm7
  have VPB2 := VPB.out
  have Y7 := VYZ.out.keep q7
  have S7 := own7.slc
  have hzn : (zeros N).toList.length = N := by rw [zeros_list]; simp
  have C1 := copy_more (xs := []) (o := 0) (N := N) (c := N) (B := some ⟨g, 0, none⟩) 3 S7 (show Row w7 g 5 (bv [] ++ (zeros N).toList).toArray from Y7.at mem0) rfl (fun _ => rfl) (by have := VHN.out; omega) (by rw [hzn]; have := VHN.out; omega)
  have Y8 := Y7.put 0 rfl (bv ([] ++ F) ++ (zeros N).toList.drop 40)
  simp only [List.set_cons_zero] at Y8
  have hgu : g ≤ w7.heap.size := Nat.le_of_lt (Y7.lt mem0)
  have q8 := below_setRow (VQZ.out.trans (q7.mono VQZ.out.size)) g (bv ([] ++ F) ++ (zeros N).toList.drop 40).toArray (Nat.le_of_eq VHG.out)
  obtain ⟨w8, hw8⟩ : ∃ w8, w7.setRow g (bv ([] ++ F) ++ (zeros N).toList.drop 40).toArray = w8 := ⟨_, rfl⟩
  rw [hw8] at C1 Y8 q8
  have hcut : 0 < m → cutA (some ⟨g, 0, none⟩) N 40 = some ⟨g, 40, none⟩ := fun h => by unfold cutA; rw [if_neg (by have := VHN.out; omega)]; simp [Addr.add]
  have SL1 := slice_lo (A := some ⟨g, 0, none⟩) (n := N) (c := N) (k := 40) (by have := VHN.out; omega)
  rw [show N - 40 = m by have := VHN.out; omega] at SL1
  have C2 := copy_more (xs := [] ++ F) (o := 40) (N := m) (c := m) (B := cutA (some ⟨g, 0, none⟩) N 40) 3 (VSH.out.keep q8) (Y8.at mem0) (by rw [List.nil_append]; exact hF) (fun h => hcut (by have := VHM.out; omega)) (by have := VHM.out; omega) (by rw [List.length_drop, hzn]; have := VHN.out; have := VHM.out; omega)
  have Y9 := Y8.put 0 rfl (bv ([] ++ F ++ hb) ++ ((zeros N).toList.drop 40).drop 8)
  simp only [List.set_cons_zero] at Y9
  obtain ⟨w9, hw9⟩ : ∃ w9, w8.setRow g (bv ([] ++ F ++ hb) ++ ((zeros N).toList.drop 40).drop 8).toArray = w9 := ⟨_, rfl⟩
  rw [hw9] at C2 Y9
  have YD := Y9.drew
  have D1 := veil (YD.look mem2 (pc_body VM.out))
  have SL2 := slice_lo (A := some ⟨g, 0, none⟩) (n := N) (c := N) (k := 48) (by have := VHN.out; have := VHM.out; omega)
  rw [show N - 48 = n by have := VHN.out; have := VHM.out; omega] at SL2
  have C3 := copy_more (xs := [] ++ F ++ hb) (o := 48) (N := n) (c := n) (B := cutA (some ⟨g, 0, none⟩) N 48) 3 (HS.out.keep YD.below) (YD.at mem0) (by rw [List.nil_append, List.length_append, hF, VBL.out]) (fun h => by unfold cutA; rw [if_neg (by have := VHN.out; have := VHM.out; omega)]; simp [Addr.add]) (Nat.le_refl _) (by rw [List.length_drop, List.length_drop, hzn]; have := VHN.out; have := VHM.out; omega)
  have Y10 := YD.put 0 rfl (bv ([] ++ F ++ hb ++ zs) ++ (((zeros N).toList.drop 40).drop 8).drop n)
  simp only [List.set_cons_zero] at Y10
  obtain ⟨w10, hw10⟩ : ∃ w10, w9.drew.setRow g (bv ([] ++ F ++ hb ++ zs) ++ (((zeros N).toList.drop 40).drop 8).drop n).toArray = w10 := ⟨_, rfl⟩
  rw [hw10] at C3 Y10
  have D2 := veil (Y10.look mem2 (pc_body VM.out))
  have hend : bv ([] ++ F ++ hb ++ zs) ++ (((zeros N).toList.drop 40).drop 8).drop n = bv (pb k zs) := by
    rw [List.drop_of_length_le (by rw [List.length_drop, List.length_drop, hzn]; have := VHN.out; have := VHM.out; omega), List.append_nil, List.nil_append, VPB2]
  rw [hend] at Y10
  have hNl : N = (pb k zs).length := by rw [← VPB2, List.length_append, List.length_append, hF, VBL.out, VZL.out]; have := VHN.out; have := VHM.out; omega
  have hwg : w.heap.size ≤ g := VYZ.out.own _ mem0
  have VC1 := veil C1
  have VC2 := veil C2
  have VC3 := veil C3
  have VS1 := veil SL1
  have VS2 := veil SL2
  have V10 := veil Y10
  have VNL := veil hNl
  clear KF HM P1 own7 Y7 S7 C1 Y8 q8 hw8 hcut SL1 C2 Y9 hw9 YD SL2 C3 Y10 hw10 hend hNl hF VPB2 hzn hgu q7 VYZ VQZ VSH HS VPB
  simp only []
  rename_i aK
  refine aK _ _ ?_
  refine wpList_copy_of rfl (.tmp 46) (.tmp 50) rfl rfl rfl VC1.out ?_
  go_wp2_with (first
    | (refine wpList_copy_of rfl (.tmp 55) (.tmp 56) rfl rfl rfl VC2.out ?_)
    | (refine wpList_slice_of rfl _ (.tmp 53) (.tmp 54) rfl rfl rfl (VS1.out _) ?_))
  refine wp_region_noPanic ?_
  refine wp_region_held_drew (S := (fun w' => w'.cell? ⟨w.heap.size, 39, none⟩ = some (.slice A n c))) (by kernel_rfl) D1.out (fun hHeld => ?_)
  refine wpAnyH_take (i := 0) (v := ?_) (by rfl) (by kernel_rfl) (by kernel_rfl) (by kernel_rfl) (fun _ _ _ h => h) (Or.inl ⟨by rfl, ?_⟩) hHeld ?_
  rotate_left
  · intro w' hSw
    (try dsimp only at hSw)
    simp only [List.getElem_toArray, List.getElem_cons_zero, List.getElem_cons_succ]
    go_simp
    all_goals (try with_reducible rfl)
  try simp only [Act.put, List.setIfInBounds_toArray, List.set_cons_zero, List.set_cons_succ, List.getElem_toArray, List.getElem_cons_zero, List.getElem_cons_succ]
  refine wpAnyH_take (i := 1) (v := ?_) (by rfl) (by kernel_rfl) (by kernel_rfl) (by kernel_rfl) (fun _ _ _ h => h) (Or.inl ⟨by rfl, ?_⟩) hHeld ?_
  rotate_left
  · intro w' hSw
    (try dsimp only at hSw)
    simp only [List.getElem_toArray, List.getElem_cons_zero, List.getElem_cons_succ]
    go_simp
    all_goals (try with_reducible rfl)
  try simp only [Act.put, List.setIfInBounds_toArray, List.set_cons_zero, List.set_cons_succ, List.getElem_toArray, List.getElem_cons_zero, List.getElem_cons_succ]
  refine wpAnyH_take (i := 2) (v := _) (by rfl) (by kernel_rfl) (by kernel_rfl) (by kernel_rfl) (fun _ _ _ h => h) (yieldsIf_slice (by rfl) _ (.tmp 59) (.tmp 60) (by rfl) rfl rfl VS2.out) hHeld ?_
  try simp only [Act.put, List.setIfInBounds_toArray, List.set_cons_zero, List.set_cons_succ, List.getElem_toArray, List.getElem_cons_zero, List.getElem_cons_succ]
  refine wpAnyH_take (i := 3) (v := ?_) (by rfl) (by kernel_rfl) (by kernel_rfl) (by kernel_rfl) (fun _ _ _ h => h) (Or.inl ⟨by rfl, ?_⟩) hHeld ?_
  rotate_left
  · intro w' hSw
    (try dsimp only at hSw)
    simp only [List.getElem_toArray, List.getElem_cons_zero, List.getElem_cons_succ]
    go_simp
    all_goals (try with_reducible rfl)
  try simp only [Act.put, List.setIfInBounds_toArray, List.set_cons_zero, List.set_cons_succ, List.getElem_toArray, List.getElem_cons_zero, List.getElem_cons_succ]
  refine wpAnyH_take (i := 4) (v := ?_) (by rfl) (by kernel_rfl) (by kernel_rfl) (by kernel_rfl) (fun _ _ _ h => h) (Or.inl ⟨by rfl, ?_⟩) hHeld ?_
  rotate_left
  · intro w' hSw
    (try dsimp only at hSw)
    simp only [List.getElem_toArray, List.getElem_cons_zero, List.getElem_cons_succ]
    go_simp
    all_goals (try with_reducible rfl)
  try simp only [Act.put, List.setIfInBounds_toArray, List.set_cons_zero, List.set_cons_succ, List.getElem_toArray, List.getElem_cons_zero, List.getElem_cons_succ]
  refine wpAnyH_ready (rs := [5]) (by kernel_rfl) (by simp) ?_
  refine AllReadyH.cons (by rfl) (fun K hK => ?_) AllReadyH.nil
  simp only [List.getElem_toArray, List.getElem_cons_zero, List.getElem_cons_succ]
  refine wp_copy_of (.tmp 61) (.tmp 63) rfl rfl rfl VC3.out ?_
  (try dsimp only)
  refine hK.out _ _ D2.out (fun hHeld => ?_)
  clear hK K
  try simp only [Act.put, List.setIfInBounds_toArray, List.set_cons_zero, List.set_cons_succ, List.getElem_toArray, List.getElem_cons_zero, List.getElem_cons_succ]
  refine wpAnyH_done (by kernel_rfl) ?_ _
  refine NoPanic.normal ?_
  clear hHeld
  go_wp2_with fail
  refine bodyPost_ret (results_tmp2 rfl _ _ _) rfl ?_
  exact ⟨g, N, hwg, VNL.out, rfl, V10.out.at mem0, V10.out.below⟩

set_option linter.unusedSimpArgs false in
set_option maxHeartbeats 8000000 in
theorem codePut_np_no (k : Pk) (A : Option Addr) (n c : Nat) (zs : List Int) (w : World) (M : Ends k) (V : Holds k) (hs : Slc w (.slice A n c) zs) (hok : ¬ OkP k n) (hn : n ≤ 16000000) (ha : k.alert = false) (hi : k.frag.is = true) :
    Calls Try.prog 11 #[pv k (.slice A n c)] w (PutNo w) := by
  have hzl := (slc_of hs).1
  obtain ⟨m, hm⟩ : ∃ m, 8 + n = m := ⟨_, rfl⟩
  obtain ⟨N, hN⟩ : ∃ N, 40 + m = N := ⟨_, rfl⟩
  unfold OkP sizeP at hok
  rw [ha, hi] at hok
  simp only [if_true, if_false, Bool.false_eq_true, false_implies, and_true, forall_const] at hok
  have hlong : (65535 : Int) < (m : Int) ∨ (¬ (65535 : Int) < (m : Int) ∧ (8191 : Int) < k.frag.off) := by omega
  clear hok
  have hM : m ≤ 16000016 := by omega
  have e1 : 8 + (n : Int) = (m : Int) := by omega
  have e2 : 40 + (m : Int) = (N : Int) := by omega
  have hw1 : IntKind.i64.wrap (8 + (n : Int)) = (m : Int) := by rw [IntKind.wrap_i64]; omega
  have hw2 : IntKind.i64.wrap (40 + (m : Int)) = (N : Int) := by rw [IntKind.wrap_i64]; omega
  have hw3 : IntKind.i64.wrap (m : Int) = (m : Int) := by rw [IntKind.wrap_i64]; omega
  have VHM := veil hm
  have VHN := veil hN
  clear hm hN
  have Y := (Lay.begin w).new (pc k (.slice A n c)) 30 (g := w.heap.size) rfl
  have VM := veil M
  have VV := veil V
  have HS := veil hs
  have y1 : (w.alloc (.cells (pc k (.slice A n c)).toArray 30)).cell? ⟨w.heap.size, 38, none⟩ = some (.int .u8 k.next) := Y.look mem0 (pc_next M)
  have y2 : (w.alloc (.cells (pc k (.slice A n c)).toArray 30)).cell? ⟨w.heap.size, 34, none⟩ = some (.bool true) := by have := Y.range mem0 (pc_frag M) 0 _ rfl; rw [← hi]; exact this
  have P0 := veil (pktAt Y mem0 M).frag
  have KP := veil (partHead_any k.next k.frag (w.alloc (.cells (pc k (.slice A n c)).toArray 30)) hi V.id V.off)
  have VY := veil Y
  clear Y hs M V
  go_enter Try.func11, Try.ntmps11
  go_wp2_with (refine wpList_load_of rfl _ rfl rfl P0.out ?_)
  refine (KP.out).mono ?_
  rintro e w1 ⟨g1, hg1, rfl, r1, q1⟩
  have Y := VY.out.got q1 r1 hg1
  clear KP P0 VY y1 y2 r1 q1
  have d1 : w1.cell? ⟨w.heap.size, 33, none⟩ = some (.bool false) := by have := Y.look mem1 (pc_alert VM.out); rw [ha] at this; exact this
  have SH : Slc w1 (.slice (some ⟨g1, 0, none⟩) 8 8) (ptB k.next k.frag) := .inr ⟨_, 8, by rw [ptB_len], rd_whole (Y.at mem0), Nat.le_of_eq (ptB_len _ _)⟩
  have d2 : w1.cell? ⟨w.heap.size, 39, none⟩ = some (.slice A n c) := Y.look mem1 (pc_body VM.out)
  have d3 : w1.cell? ⟨w.heap.size, 34, none⟩ = some (.bool true) := by have := Y.range mem1 (pc_frag VM.out) 0 _ rfl; rw [← hi]; exact this
  have d4 : w1.cell? ⟨w.heap.size, 36, none⟩ = some (.int .u16 k.frag.off) := Y.range mem1 (pc_frag VM.out) 2 _ rfl
  have VQ := veil Y.below
  clear Y SH
  rcases hlong with hlong | ⟨hl1, hl2⟩
  · skip
    go_wp2_with fail
    refine bodyPost_ret (results_tmp2 rfl _ _ _) rfl ?_
    exact ⟨rfl, VQ.out⟩
  · skip
    go_wp2_with fail
    refine bodyPost_ret (results_tmp2 rfl _ _ _) rfl ?_
    exact ⟨rfl, VQ.out⟩

set_option linter.unusedSimpArgs false in
set_option maxHeartbeats 8000000 in
theorem codePut_an (k : Pk) (A : Option Addr) (n c : Nat) (zs : List Int) (w : World) (M : Ends k) (V : Holds k) (hs : Slc w (.slice A n c) zs) (hok : OkP k n) (ha : k.alert = true) (hi : k.frag.is = false) :
    Calls Try.prog 11 #[pv k (.slice A n c)] w (PutOk w (pb k zs)) := by
  have hzl := (slc_of hs).1
  obtain ⟨m, hm⟩ : ∃ m, 8 + n = m := ⟨_, rfl⟩
  obtain ⟨N, hN⟩ : ∃ N, 40 + m = N := ⟨_, rfl⟩
  have hsz := hok.1
  unfold sizeP at hsz
  rw [ha, hi] at hsz
  simp only [if_true, if_false, Bool.false_eq_true] at hsz
  have hM : m ≤ 65535 := by omega
  have hpb := pb_parts (k := k) (zs := zs) (hb := [k.next, 0, 5, 2, 0, 0, 1, 0] ++ []) (m := m) V (by rw [hzl]; exact hok) (by simp [hzl]; omega) (by rw [hi]; simp [alertP, behindP, ha, hi])
  have hfp : firstP k = 0 := by simp [firstP, behindP, ha, hi]
  rw [hfp] at hpb
  obtain ⟨F, hFF⟩ : ∃ F, [96, 0, 0, 0] ++ be (m : Int) 2 ++ [0, k.hops] ++ k.s ++ k.d = F := ⟨_, rfl⟩
  rw [hFF] at hpb
  have VFF := veil hFF
  have VPB := veil hpb
  clear hpb hfp hok hFF
  have i1 : ¬ (65535 : Int) < (m : Int) := by omega
  have e1 : 8 + (n : Int) = (m : Int) := by omega
  have e2 : 40 + (m : Int) = (N : Int) := by omega
  have hw1 : IntKind.i64.wrap (8 + (n : Int)) = (m : Int) := by rw [IntKind.wrap_i64]; omega
  have hw2 : IntKind.i64.wrap (40 + (m : Int)) = (N : Int) := by rw [IntKind.wrap_i64]; omega
  have hw3 : IntKind.i64.wrap (m : Int) = (m : Int) := by rw [IntKind.wrap_i64]; omega
  have VHM := veil hm
  have VHN := veil hN
  clear hm hN hsz
  have Y := (Lay.begin w).new (pc k (.slice A n c)) 30 (g := w.heap.size) rfl
  have VM := veil M
  have VV := veil V
  have HS := veil hs
  have y1 : (w.alloc (.cells (pc k (.slice A n c)).toArray 30)).cell? ⟨w.heap.size, 38, none⟩ = some (.int .u8 k.next) := Y.look mem0 (pc_next M)
  have y2 : (w.alloc (.cells (pc k (.slice A n c)).toArray 30)).cell? ⟨w.heap.size, 34, none⟩ = some (.bool false) := by have := Y.range mem0 (pc_frag M) 0 _ rfl; rw [← hi]; exact this
  have d1 : (w.alloc (.cells (pc k (.slice A n c)).toArray 30)).cell? ⟨w.heap.size, 33, none⟩ = some (.bool true) := by have := Y.look mem0 (pc_alert VM.out); rw [ha] at this; exact this
  have VY := veil Y
  have KA := veil (alertHead_any k.next (w.alloc (.cells (pc k (.slice A n c)).toArray 30)))
  clear Y hs M V
  go_enter Try.func11, Try.ntmps11
  go_wp2_with fail
  refine (KA.out).mono ?_
  rintro e w2 ⟨rfl, hw2⟩
  have Y2 := VY.out.new (bv [k.next, 0, 5, 2, 0, 0, 1, 0]) 5 (g := (w.alloc (.cells (pc k (.slice A n c)).toArray 30)).heap.size) rfl
  rw [hw2] at Y2
  have G2 := Grow.whole Y2 (by rfl : _ = 8) (by omega) (fun x hx => VY.out.lt hx)
  obtain ⟨B2, hB2⟩ : ∃ B2, (w.alloc (.cells (pc k (.slice A n c)).toArray 30)).heap.size = B2 := ⟨_, rfl⟩
  rw [hB2] at G2
  have S2 : Slc w2 (.slice none 0 0) [] := .inl ⟨rfl, rfl⟩
  obtain ⟨v3, w3, h3, G3⟩ := G2.append S2 (by simp) 28
  obtain ⟨A3, c3, e3, _, _⟩ := G3.own.slc.slice
  replace e3 : v3 = .slice A3 8 c3 := by rw [e3]; simp
  subst e3
  have SH := G3.own.slc
  have Y := G3.lay
  have H3 := veil h3
  rw [← hB2, show (w.alloc (.cells (pc k (.slice A n c)).toArray 30)).heap.size = w.heap.size + 1 by simp] at H3
  clear KA VY Y2 G2 S2 G3 h3 hw2 hB2 d1 y1 y2
  have d2 : w3.cell? ⟨w.heap.size, 39, none⟩ = some (.slice A n c) := Y.look mem0 (pc_body VM.out)
  have d3 : w3.cell? ⟨w.heap.size, 34, none⟩ = some (.bool false) := by have := Y.range mem0 (pc_frag VM.out) 0 _ rfl; rw [← hi]; exact this
  have d4 : w3.cell? ⟨w.heap.size, 36, none⟩ = some (.int .u16 k.frag.off) := Y.range mem0 (pc_frag VM.out) 2 _ rfl
  have Yz := Y.newA (zeros N) 5 (g := w3.heap.size) rfl
  obtain ⟨g, hg⟩ : ∃ g, w3.heap.size = g := ⟨_, rfl⟩
  have HM := run_make_u8 N (by have := VHN.out; omega) w3
  rw [hg] at Yz HM
  have hqz := below_new w3 (.cells (zeros N) 5)
  have VHG := veil hg
  obtain ⟨w5, hw5⟩ : ∃ w5, w3.alloc (.cells (zeros N) 5) = w5 := ⟨_, rfl⟩
  rw [hw5] at Yz HM hqz
  have P1 := veil (pktAt Yz mem1 VM.out).all
  have KF := veil (fixedHead_any k (.slice A n c) m (0) w5 VM.out hM)
  rw [VFF.out] at KF
  have hbl : ([k.next, 0, 5, 2, 0, 0, 1, 0] ++ []).length = 8 := by simp
  obtain ⟨hb, hhb⟩ : ∃ hb, [k.next, 0, 5, 2, 0, 0, 1, 0] ++ [] = hb := ⟨_, rfl⟩
  rw [hhb] at SH VPB hbl
  have VSH := veil SH
  have VYZ := veil Yz
  replace HM := veil HM
  have VQZ := veil hqz
  have VBL := veil hbl
  have VZL := veil hzl
  clear Y Yz SH hqz hbl hhb hg hw5
  go_wp2_with (first
    | (at_builtin; refine wpList_append_run rfl (.tmp 21) (.tmp 22) rfl rfl rfl H3.out ?_)
    | (at_make; refine wpList_value_of rfl (Instr.makeSlice 28 (.int .i64 N) (.int .i64 N)) rfl HM.out ?_)
    | (refine wpList_load_of rfl _ rfl rfl P1.out ?_))
  refine (KF.out).mono ?_
  rintro e w7 ⟨A7, m7, c7, rfl, hm7, own7, q7⟩
  have hF : F.length = 40 := by rw [← VFF.out]; simp [be_length, VM.out.s, VM.out.d]
  rw [hF] at hm7
  subst hm7
  have VPB2 := VPB.out
  have Y7 := VYZ.out.keep q7
  have S7 := own7.slc
  have hzn : (zeros N).toList.length = N := by rw [zeros_list]; simp
  have C1 := copy_more (xs := []) (o := 0) (N := N) (c := N) (B := some ⟨g, 0, none⟩) 3 S7 (show Row w7 g 5 (bv [] ++ (zeros N).toList).toArray from Y7.at mem0) rfl (fun _ => rfl) (by have := VHN.out; omega) (by rw [hzn]; have := VHN.out; omega)
  have Y8 := Y7.put 0 rfl (bv ([] ++ F) ++ (zeros N).toList.drop 40)
  simp only [List.set_cons_zero] at Y8
  have hgu : g ≤ w7.heap.size := Nat.le_of_lt (Y7.lt mem0)
  have q8 := below_setRow (VQZ.out.trans (q7.mono VQZ.out.size)) g (bv ([] ++ F) ++ (zeros N).toList.drop 40).toArray (Nat.le_of_eq VHG.out)
  obtain ⟨w8, hw8⟩ : ∃ w8, w7.setRow g (bv ([] ++ F) ++ (zeros N).toList.drop 40).toArray = w8 := ⟨_, rfl⟩
  rw [hw8] at C1 Y8 q8
  have hcut : 0 < m → cutA (some ⟨g, 0, none⟩) N 40 = some ⟨g, 40, none⟩ := fun h => by unfold cutA; rw [if_neg (by have := VHN.out; omega)]; simp [Addr.add]
  have SL1 := slice_lo (A := some ⟨g, 0, none⟩) (n := N) (c := N) (k := 40) (by have := VHN.out; omega)
  rw [show N - 40 = m by have := VHN.out; omega] at SL1
  have C2 := copy_more (xs := [] ++ F) (o := 40) (N := m) (c := m) (B := cutA (some ⟨g, 0, none⟩) N 40) 3 (VSH.out.keep q8) (Y8.at mem0) (by rw [List.nil_append]; exact hF) (fun h => hcut (by have := VHM.out; omega)) (by have := VHM.out; omega) (by rw [List.length_drop, hzn]; have := VHN.out; have := VHM.out; omega)
  have Y9 := Y8.put 0 rfl (bv ([] ++ F ++ hb) ++ ((zeros N).toList.drop 40).drop 8)
  simp only [List.set_cons_zero] at Y9
  obtain ⟨w9, hw9⟩ : ∃ w9, w8.setRow g (bv ([] ++ F ++ hb) ++ ((zeros N).toList.drop 40).drop 8).toArray = w9 := ⟨_, rfl⟩
  rw [hw9] at C2 Y9
  have YD := Y9.drew
  have D1 := veil (YD.look mem1 (pc_body VM.out))
  have SL2 := slice_lo (A := some ⟨g, 0, none⟩) (n := N) (c := N) (k := 48) (by have := VHN.out; have := VHM.out; omega)
  rw [show N - 48 = n by have := VHN.out; have := VHM.out; omega] at SL2
  have C3 := copy_more (xs := [] ++ F ++ hb) (o := 48) (N := n) (c := n) (B := cutA (some ⟨g, 0, none⟩) N 48) 3 (HS.out.keep YD.below) (YD.at mem0) (by rw [List.nil_append, List.length_append, hF, VBL.out]) (fun h => by unfold cutA; rw [if_neg (by have := VHN.out; have := VHM.out; omega)]; simp [Addr.add]) (Nat.le_refl _) (by rw [List.length_drop, List.length_drop, hzn]; have := VHN.out; have := VHM.out; omega)
  have Y10 := YD.put 0 rfl (bv ([] ++ F ++ hb ++ zs) ++ (((zeros N).toList.drop 40).drop 8).drop n)
  simp only [List.set_cons_zero] at Y10
  obtain ⟨w10, hw10⟩ : ∃ w10, w9.drew.setRow g (bv ([] ++ F ++ hb ++ zs) ++ (((zeros N).toList.drop 40).drop 8).drop n).toArray = w10 := ⟨_, rfl⟩
  rw [hw10] at C3 Y10
  have D2 := veil (Y10.look mem1 (pc_body VM.out))
  have hend : bv ([] ++ F ++ hb ++ zs) ++ (((zeros N).toList.drop 40).drop 8).drop n = bv (pb k zs) := by
    rw [List.drop_of_length_le (by rw [List.length_drop, List.length_drop, hzn]; have := VHN.out; have := VHM.out; omega), List.append_nil, List.nil_append, VPB2]
  rw [hend] at Y10
  have hNl : N = (pb k zs).length := by rw [← VPB2, List.length_append, List.length_append, hF, VBL.out, VZL.out]; have := VHN.out; have := VHM.out; omega
  have hwg : w.heap.size ≤ g := VYZ.out.own _ mem0
  have VC1 := veil C1
  have VC2 := veil C2
  have VC3 := veil C3
  have VS1 := veil SL1
  have VS2 := veil SL2
  have V10 := veil Y10
  have VNL := veil hNl
  clear KF HM P1 own7 Y7 S7 C1 Y8 q8 hw8 hcut SL1 C2 Y9 hw9 YD SL2 C3 Y10 hw10 hend hNl hF VPB2 hzn hgu q7 VYZ VQZ VSH HS VPB
  simp only []
  rename_i aK
  refine aK _ _ ?_
  refine wpList_copy_of rfl (.tmp 46) (.tmp 50) rfl rfl rfl VC1.out ?_
  go_wp2_with (first
    | (refine wpList_copy_of rfl (.tmp 55) (.tmp 56) rfl rfl rfl VC2.out ?_)
    | (refine wpList_slice_of rfl _ (.tmp 53) (.tmp 54) rfl rfl rfl (VS1.out _) ?_))
  refine wp_region_noPanic ?_
  refine wp_region_held_drew (S := (fun w' => w'.cell? ⟨w.heap.size, 39, none⟩ = some (.slice A n c))) (by kernel_rfl) D1.out (fun hHeld => ?_)
  refine wpAnyH_take (i := 0) (v := ?_) (by rfl) (by kernel_rfl) (by kernel_rfl) (by kernel_rfl) (fun _ _ _ h => h) (Or.inl ⟨by rfl, ?_⟩) hHeld ?_
  rotate_left
  · intro w' hSw
    (try dsimp only at hSw)
    simp only [List.getElem_toArray, List.getElem_cons_zero, List.getElem_cons_succ]
    go_simp
    all_goals (try with_reducible rfl)
  try simp only [Act.put, List.setIfInBounds_toArray, List.set_cons_zero, List.set_cons_succ, List.getElem_toArray, List.getElem_cons_zero, List.getElem_cons_succ]
  refine wpAnyH_take (i := 1) (v := ?_) (by rfl) (by kernel_rfl) (by kernel_rfl) (by kernel_rfl) (fun _ _ _ h => h) (Or.inl ⟨by rfl, ?_⟩) hHeld ?_
  rotate_left
  · intro w' hSw
    (try dsimp only at hSw)
    simp only [List.getElem_toArray, List.getElem_cons_zero, List.getElem_cons_succ]
    go_simp
    all_goals (try with_reducible rfl)
  try simp only [Act.put, List.setIfInBounds_toArray, List.set_cons_zero, List.set_cons_succ, List.getElem_toArray, List.getElem_cons_zero, List.getElem_cons_succ]
  refine wpAnyH_take (i := 2) (v := _) (by rfl) (by kernel_rfl) (by kernel_rfl) (by kernel_rfl) (fun _ _ _ h => h) (yieldsIf_slice (by rfl) _ (.tmp 59) (.tmp 60) (by rfl) rfl rfl VS2.out) hHeld ?_
  try simp only [Act.put, List.setIfInBounds_toArray, List.set_cons_zero, List.set_cons_succ, List.getElem_toArray, List.getElem_cons_zero, List.getElem_cons_succ]
  refine wpAnyH_take (i := 3) (v := ?_) (by rfl) (by kernel_rfl) (by kernel_rfl) (by kernel_rfl) (fun _ _ _ h => h) (Or.inl ⟨by rfl, ?_⟩) hHeld ?_
  rotate_left
  · intro w' hSw
    (try dsimp only at hSw)
    simp only [List.getElem_toArray, List.getElem_cons_zero, List.getElem_cons_succ]
    go_simp
    all_goals (try with_reducible rfl)
  try simp only [Act.put, List.setIfInBounds_toArray, List.set_cons_zero, List.set_cons_succ, List.getElem_toArray, List.getElem_cons_zero, List.getElem_cons_succ]
  refine wpAnyH_take (i := 4) (v := ?_) (by rfl) (by kernel_rfl) (by kernel_rfl) (by kernel_rfl) (fun _ _ _ h => h) (Or.inl ⟨by rfl, ?_⟩) hHeld ?_
  rotate_left
  · intro w' hSw
    (try dsimp only at hSw)
    simp only [List.getElem_toArray, List.getElem_cons_zero, List.getElem_cons_succ]
    go_simp
    all_goals (try with_reducible rfl)
  try simp only [Act.put, List.setIfInBounds_toArray, List.set_cons_zero, List.set_cons_succ, List.getElem_toArray, List.getElem_cons_zero, List.getElem_cons_succ]
  refine wpAnyH_ready (rs := [5]) (by kernel_rfl) (by simp) ?_
  refine AllReadyH.cons (by rfl) (fun K hK => ?_) AllReadyH.nil
  simp only [List.getElem_toArray, List.getElem_cons_zero, List.getElem_cons_succ]
  refine wp_copy_of (.tmp 61) (.tmp 63) rfl rfl rfl VC3.out ?_
  (try dsimp only)
  refine hK.out _ _ D2.out (fun hHeld => ?_)
  clear hK K
  try simp only [Act.put, List.setIfInBounds_toArray, List.set_cons_zero, List.set_cons_succ, List.getElem_toArray, List.getElem_cons_zero, List.getElem_cons_succ]
  refine wpAnyH_done (by kernel_rfl) ?_ _
  refine NoPanic.normal ?_
  clear hHeld
  go_wp2_with fail
  refine bodyPost_ret (results_tmp2 rfl _ _ _) rfl ?_
  exact ⟨g, N, hwg, VNL.out, rfl, V10.out.at mem0, V10.out.below⟩

set_option linter.unusedSimpArgs false in
set_option maxHeartbeats 8000000 in
theorem codePut_an_no (k : Pk) (A : Option Addr) (n c : Nat) (zs : List Int) (w : World) (M : Ends k) (V : Holds k) (hs : Slc w (.slice A n c) zs) (hok : ¬ OkP k n) (hn : n ≤ 16000000) (ha : k.alert = true) (hi : k.frag.is = false) :
    Calls Try.prog 11 #[pv k (.slice A n c)] w (PutNo w) := by
  have hzl := (slc_of hs).1
  obtain ⟨m, hm⟩ : ∃ m, 8 + n = m := ⟨_, rfl⟩
  obtain ⟨N, hN⟩ : ∃ N, 40 + m = N := ⟨_, rfl⟩
  unfold OkP sizeP at hok
  rw [ha, hi] at hok
  simp only [if_true, if_false, Bool.false_eq_true, false_implies, and_true, forall_const] at hok
  have hlong : (65535 : Int) < (m : Int) := by omega
  clear hok
  have hM : m ≤ 16000016 := by omega
  have e1 : 8 + (n : Int) = (m : Int) := by omega
  have e2 : 40 + (m : Int) = (N : Int) := by omega
  have hw1 : IntKind.i64.wrap (8 + (n : Int)) = (m : Int) := by rw [IntKind.wrap_i64]; omega
  have hw2 : IntKind.i64.wrap (40 + (m : Int)) = (N : Int) := by rw [IntKind.wrap_i64]; omega
  have hw3 : IntKind.i64.wrap (m : Int) = (m : Int) := by rw [IntKind.wrap_i64]; omega
  have VHM := veil hm
  have VHN := veil hN
  clear hm hN
  have Y := (Lay.begin w).new (pc k (.slice A n c)) 30 (g := w.heap.size) rfl
  have VM := veil M
  have VV := veil V
  have HS := veil hs
  have y1 : (w.alloc (.cells (pc k (.slice A n c)).toArray 30)).cell? ⟨w.heap.size, 38, none⟩ = some (.int .u8 k.next) := Y.look mem0 (pc_next M)
  have y2 : (w.alloc (.cells (pc k (.slice A n c)).toArray 30)).cell? ⟨w.heap.size, 34, none⟩ = some (.bool false) := by have := Y.range mem0 (pc_frag M) 0 _ rfl; rw [← hi]; exact this
  have d1 : (w.alloc (.cells (pc k (.slice A n c)).toArray 30)).cell? ⟨w.heap.size, 33, none⟩ = some (.bool true) := by have := Y.look mem0 (pc_alert VM.out); rw [ha] at this; exact this
  have VY := veil Y
  have KA := veil (alertHead_any k.next (w.alloc (.cells (pc k (.slice A n c)).toArray 30)))
  clear Y hs M V
  go_enter Try.func11, Try.ntmps11
  go_wp2_with fail
  refine (KA.out).mono ?_
  rintro e w2 ⟨rfl, hw2⟩
  have Y2 := VY.out.new (bv [k.next, 0, 5, 2, 0, 0, 1, 0]) 5 (g := (w.alloc (.cells (pc k (.slice A n c)).toArray 30)).heap.size) rfl
  rw [hw2] at Y2
  have G2 := Grow.whole Y2 (by rfl : _ = 8) (by omega) (fun x hx => VY.out.lt hx)
  obtain ⟨B2, hB2⟩ : ∃ B2, (w.alloc (.cells (pc k (.slice A n c)).toArray 30)).heap.size = B2 := ⟨_, rfl⟩
  rw [hB2] at G2
  have S2 : Slc w2 (.slice none 0 0) [] := .inl ⟨rfl, rfl⟩
  obtain ⟨v3, w3, h3, G3⟩ := G2.append S2 (by simp) 28
  obtain ⟨A3, c3, e3, _, _⟩ := G3.own.slc.slice
  replace e3 : v3 = .slice A3 8 c3 := by rw [e3]; simp
  subst e3
  have SH := G3.own.slc
  have Y := G3.lay
  have H3 := veil h3
  rw [← hB2, show (w.alloc (.cells (pc k (.slice A n c)).toArray 30)).heap.size = w.heap.size + 1 by simp] at H3
  clear KA VY Y2 G2 S2 G3 h3 hw2 hB2 d1 y1 y2
  have d2 : w3.cell? ⟨w.heap.size, 39, none⟩ = some (.slice A n c) := Y.look mem0 (pc_body VM.out)
  have d3 : w3.cell? ⟨w.heap.size, 34, none⟩ = some (.bool false) := by have := Y.range mem0 (pc_frag VM.out) 0 _ rfl; rw [← hi]; exact this
  have d4 : w3.cell? ⟨w.heap.size, 36, none⟩ = some (.int .u16 k.frag.off) := Y.range mem0 (pc_frag VM.out) 2 _ rfl
  have VQ := veil Y.below
  clear Y SH
  go_wp2_with (at_builtin; refine wpList_append_run rfl (.tmp 21) (.tmp 22) rfl rfl rfl H3.out ?_)
  refine bodyPost_ret (results_tmp2 rfl _ _ _) rfl ?_
  exact ⟨rfl, VQ.out⟩

set_option linter.unusedSimpArgs false in
set_option maxHeartbeats 8000000 in
theorem codePut_ap (k : Pk) (A : Option Addr) (n c : Nat) (zs : List Int) (w : World) (M : Ends k) (V : Holds k) (hs : Slc w (.slice A n c) zs) (hok : OkP k n) (ha : k.alert = true) (hi : k.frag.is = true) :
    Calls Try.prog 11 #[pv k (.slice A n c)] w (PutOk w (pb k zs)) := by
  have hzl := (slc_of hs).1
  obtain ⟨m, hm⟩ : ∃ m, 16 + n = m := ⟨_, rfl⟩
  obtain ⟨N, hN⟩ : ∃ N, 40 + m = N := ⟨_, rfl⟩
  have hsz := hok.1
  unfold sizeP at hsz
  rw [ha, hi] at hsz
  simp only [if_true, if_false, Bool.false_eq_true] at hsz
  have hM : m ≤ 65535 := by omega
  have hoff := hok.2 hi
  have hpb := pb_parts (k := k) (zs := zs) (hb := [44, 0, 5, 2, 0, 0, 1, 0] ++ ptB k.next k.frag) (m := m) V (by rw [hzl]; exact hok) (by simp [hzl, ptB_len]; omega) (by rw [hi]; simp [alertP, behindP, ha, hi])
  have hfp : firstP k = 0 := by simp [firstP, behindP, ha, hi]
  rw [hfp] at hpb
  obtain ⟨F, hFF⟩ : ∃ F, [96, 0, 0, 0] ++ be (m : Int) 2 ++ [0, k.hops] ++ k.s ++ k.d = F := ⟨_, rfl⟩
  rw [hFF] at hpb
  have VFF := veil hFF
  have VPB := veil hpb
  clear hpb hfp hok hFF
  have i1 : ¬ (65535 : Int) < (m : Int) := by omega
  have i2 : ¬ (8191 : Int) < k.frag.off := by omega
  have e1 : 16 + (n : Int) = (m : Int) := by omega
  have e2 : 40 + (m : Int) = (N : Int) := by omega
  have hw1 : IntKind.i64.wrap (16 + (n : Int)) = (m : Int) := by rw [IntKind.wrap_i64]; omega
  have hw2 : IntKind.i64.wrap (40 + (m : Int)) = (N : Int) := by rw [IntKind.wrap_i64]; omega
  have hw3 : IntKind.i64.wrap (m : Int) = (m : Int) := by rw [IntKind.wrap_i64]; omega
  have VHM := veil hm
  have VHN := veil hN
  clear hm hN hsz
  have Y := (Lay.begin w).new (pc k (.slice A n c)) 30 (g := w.heap.size) rfl
  have VM := veil M
  have VV := veil V
  have HS := veil hs
  have y1 : (w.alloc (.cells (pc k (.slice A n c)).toArray 30)).cell? ⟨w.heap.size, 38, none⟩ = some (.int .u8 k.next) := Y.look mem0 (pc_next M)
  have y2 : (w.alloc (.cells (pc k (.slice A n c)).toArray 30)).cell? ⟨w.heap.size, 34, none⟩ = some (.bool true) := by have := Y.range mem0 (pc_frag M) 0 _ rfl; rw [← hi]; exact this
  have P0 := veil (pktAt Y mem0 M).frag
  have KP := veil (partHead_any k.next k.frag (w.alloc (.cells (pc k (.slice A n c)).toArray 30)) hi V.id V.off)
  have VY := veil Y
  clear Y hs M V
  go_enter Try.func11, Try.ntmps11
  go_wp2_with (refine wpList_load_of rfl _ rfl rfl P0.out ?_)
  refine (KP.out).mono ?_
  rintro e w1 ⟨g1, hg1, rfl, r1, q1⟩
  have Y := VY.out.got q1 r1 hg1
  clear KP P0 VY y1 y2 r1 q1
  have d1 : w1.cell? ⟨w.heap.size, 33, none⟩ = some (.bool true) := by have := Y.look mem1 (pc_alert VM.out); rw [ha] at this; exact this
  have VY := veil Y
  have KA := veil (alertHead_any 44 w1)
  clear Y
  go_wp2_with fail
  refine (KA.out).mono ?_
  rintro e w2 ⟨rfl, hw2⟩
  have Y2 := VY.out.new (bv [44, 0, 5, 2, 0, 0, 1, 0]) 5 (g := w1.heap.size) rfl
  rw [hw2] at Y2
  have G2 := Grow.whole Y2 (by rfl : _ = 8) (by omega) (fun x hx => VY.out.lt hx)
  obtain ⟨B2, hB2⟩ : ∃ B2, w1.heap.size = B2 := ⟨_, rfl⟩
  rw [hB2] at G2
  have S2 : Slc w2 (.slice (some ⟨g1, 0, none⟩) 8 8) (ptB k.next k.frag) := .inr ⟨_, 8, by rw [ptB_len], rd_whole (G2.lay.at mem0), Nat.le_of_eq (ptB_len _ _)⟩
  obtain ⟨v3, w3, h3, G3⟩ := G2.append S2 (by simp [ptB_len]) 28
  obtain ⟨A3, c3, e3, _, _⟩ := G3.own.slc.slice
  replace e3 : v3 = .slice A3 16 c3 := by rw [e3]; simp [ptB_len]
  subst e3
  have SH := G3.own.slc
  have Y := G3.lay
  have H3 := veil h3
  rw [← hB2] at H3
  clear KA VY Y2 G2 S2 G3 h3 hw2 hB2 d1
  have d2 : w3.cell? ⟨w.heap.size, 39, none⟩ = some (.slice A n c) := Y.look mem1 (pc_body VM.out)
  have d3 : w3.cell? ⟨w.heap.size, 34, none⟩ = some (.bool true) := by have := Y.range mem1 (pc_frag VM.out) 0 _ rfl; rw [← hi]; exact this
  have d4 : w3.cell? ⟨w.heap.size, 36, none⟩ = some (.int .u16 k.frag.off) := Y.range mem1 (pc_frag VM.out) 2 _ rfl
  have Yz := Y.newA (zeros N) 5 (g := w3.heap.size) rfl
  obtain ⟨g, hg⟩ : ∃ g, w3.heap.size = g := ⟨_, rfl⟩
  have HM := run_make_u8 N (by have := VHN.out; omega) w3
  rw [hg] at Yz HM
  have hqz := below_new w3 (.cells (zeros N) 5)
  have VHG := veil hg
  obtain ⟨w5, hw5⟩ : ∃ w5, w3.alloc (.cells (zeros N) 5) = w5 := ⟨_, rfl⟩
  rw [hw5] at Yz HM hqz
  have P1 := veil (pktAt Yz mem2 VM.out).all
  have KF := veil (fixedHead_any k (.slice A n c) m (0) w5 VM.out hM)
  rw [VFF.out] at KF
  have hbl : ([44, 0, 5, 2, 0, 0, 1, 0] ++ ptB k.next k.frag).length = 16 := by simp [ptB_len]
  obtain ⟨hb, hhb⟩ : ∃ hb, [44, 0, 5, 2, 0, 0, 1, 0] ++ ptB k.next k.frag = hb := ⟨_, rfl⟩
  rw [hhb] at SH VPB hbl
  have VSH := veil SH
  have VYZ := veil Yz
  replace HM := veil HM
  have VQZ := veil hqz
  have VBL := veil hbl
  have VZL := veil hzl
  clear Y Yz SH hqz hbl hhb hg hw5
  go_wp2_with (first
    | (at_builtin; refine wpList_append_run rfl (.tmp 21) (.tmp 22) rfl rfl rfl H3.out ?_)
    | (at_make; refine wpList_value_of rfl (Instr.makeSlice 28 (.int .i64 N) (.int .i64 N)) rfl HM.out ?_)
    | (refine wpList_load_of rfl _ rfl rfl P1.out ?_))
  refine (KF.out).mono ?_
  rintro e w7 ⟨A7, m7, c7, rfl, hm7, own7, q7⟩
  have hF : F.length = 40 := by rw [← VFF.out]; simp [be_length, VM.out.s, VM.out.d]
  rw [hF] at hm7
  subst hm7
  have VPB2 := VPB.out
  have Y7 := VYZ.out.keep q7
  have S7 := own7.slc
  have hzn : (zeros N).toList.length = N := by rw [zeros_list]; simp
  have C1 := copy_more (xs := []) (o := 0) (N := N) (c := N) (B := some ⟨g, 0, none⟩) 3 S7 (show Row w7 g 5 (bv [] ++ (zeros N).toList).toArray from Y7.at mem0) rfl (fun _ => rfl) (by have := VHN.out; omega) (by rw [hzn]; have := VHN.out; omega)
  have Y8 := Y7.put 0 rfl (bv ([] ++ F) ++ (zeros N).toList.drop 40)
  simp only [List.set_cons_zero] at Y8
  have hgu : g ≤ w7.heap.size := Nat.le_of_lt (Y7.lt mem0)
  have q8 := below_setRow (VQZ.out.trans (q7.mono VQZ.out.size)) g (bv ([] ++ F) ++ (zeros N).toList.drop 40).toArray (Nat.le_of_eq VHG.out)
  obtain ⟨w8, hw8⟩ : ∃ w8, w7.setRow g (bv ([] ++ F) ++ (zeros N).toList.drop 40).toArray = w8 := ⟨_, rfl⟩
  rw [hw8] at C1 Y8 q8
  have hcut : 0 < m → cutA (some ⟨g, 0, none⟩) N 40 = some ⟨g, 40, none⟩ := fun h => by unfold cutA; rw [if_neg (by have := VHN.out; omega)]; simp [Addr.add]
  have SL1 := slice_lo (A := some ⟨g, 0, none⟩) (n := N) (c := N) (k := 40) (by have := VHN.out; omega)
  rw [show N - 40 = m by have := VHN.out; omega] at SL1
  have C2 := copy_more (xs := [] ++ F) (o := 40) (N := m) (c := m) (B := cutA (some ⟨g, 0, none⟩) N 40) 3 (VSH.out.keep q8) (Y8.at mem0) (by rw [List.nil_append]; exact hF) (fun h => hcut (by have := VHM.out; omega)) (by have := VHM.out; omega) (by rw [List.length_drop, hzn]; have := VHN.out; have := VHM.out; omega)
  have Y9 := Y8.put 0 rfl (bv ([] ++ F ++ hb) ++ ((zeros N).toList.drop 40).drop 16)
  simp only [List.set_cons_zero] at Y9
  obtain ⟨w9, hw9⟩ : ∃ w9, w8.setRow g (bv ([] ++ F ++ hb) ++ ((zeros N).toList.drop 40).drop 16).toArray = w9 := ⟨_, rfl⟩
  rw [hw9] at C2 Y9
  have YD := Y9.drew
  have D1 := veil (YD.look mem2 (pc_body VM.out))
  have SL2 := slice_lo (A := some ⟨g, 0, none⟩) (n := N) (c := N) (k := 56) (by have := VHN.out; have := VHM.out; omega)
  rw [show N - 56 = n by have := VHN.out; have := VHM.out; omega] at SL2
  have C3 := copy_more (xs := [] ++ F ++ hb) (o := 56) (N := n) (c := n) (B := cutA (some ⟨g, 0, none⟩) N 56) 3 (HS.out.keep YD.below) (YD.at mem0) (by rw [List.nil_append, List.length_append, hF, VBL.out]) (fun h => by unfold cutA; rw [if_neg (by have := VHN.out; have := VHM.out; omega)]; simp [Addr.add]) (Nat.le_refl _) (by rw [List.length_drop, List.length_drop, hzn]; have := VHN.out; have := VHM.out; omega)
  have Y10 := YD.put 0 rfl (bv ([] ++ F ++ hb ++ zs) ++ (((zeros N).toList.drop 40).drop 16).drop n)
  simp only [List.set_cons_zero] at Y10
  obtain ⟨w10, hw10⟩ : ∃ w10, w9.drew.setRow g (bv ([] ++ F ++ hb ++ zs) ++ (((zeros N).toList.drop 40).drop 16).drop n).toArray = w10 := ⟨_, rfl⟩
  rw [hw10] at C3 Y10
  have D2 := veil (Y10.look mem2 (pc_body VM.out))
  have hend : bv ([] ++ F ++ hb ++ zs) ++ (((zeros N).toList.drop 40).drop 16).drop n = bv (pb k zs) := by
    rw [List.drop_of_length_le (by rw [List.length_drop, List.length_drop, hzn]; have := VHN.out; have := VHM.out; omega), List.append_nil, List.nil_append, VPB2]
  rw [hend] at Y10
  have hNl : N = (pb k zs).length := by rw [← VPB2, List.length_append, List.length_append, hF, VBL.out, VZL.out]; have := VHN.out; have := VHM.out; omega
  have hwg : w.heap.size ≤ g := VYZ.out.own _ mem0
  have VC1 := veil C1
  have VC2 := veil C2
  have VC3 := veil C3
  have VS1 := veil SL1
  have VS2 := veil SL2
  have V10 := veil Y10
  have VNL := veil hNl
  clear KF HM P1 own7 Y7 S7 C1 Y8 q8 hw8 hcut SL1 C2 Y9 hw9 YD SL2 C3 Y10 hw10 hend hNl hF VPB2 hzn hgu q7 VYZ VQZ VSH HS VPB
  simp only []
  rename_i aK
  refine aK _ _ ?_
  refine wpList_copy_of rfl (.tmp 46) (.tmp 50) rfl rfl rfl VC1.out ?_
  go_wp2_with (first
    | (refine wpList_copy_of rfl (.tmp 55) (.tmp 56) rfl rfl rfl VC2.out ?_)
    | (refine wpList_slice_of rfl _ (.tmp 53) (.tmp 54) rfl rfl rfl (VS1.out _) ?_))
  refine wp_region_noPanic ?_
  refine wp_region_held_drew (S := (fun w' => w'.cell? ⟨w.heap.size, 39, none⟩ = some (.slice A n c))) (by kernel_rfl) D1.out (fun hHeld => ?_)
  refine wpAnyH_take (i := 0) (v := ?_) (by rfl) (by kernel_rfl) (by kernel_rfl) (by kernel_rfl) (fun _ _ _ h => h) (Or.inl ⟨by rfl, ?_⟩) hHeld ?_
  rotate_left
  · intro w' hSw
    (try dsimp only at hSw)
    simp only [List.getElem_toArray, List.getElem_cons_zero, List.getElem_cons_succ]
    go_simp
    all_goals (try with_reducible rfl)
  try simp only [Act.put, List.setIfInBounds_toArray, List.set_cons_zero, List.set_cons_succ, List.getElem_toArray, List.getElem_cons_zero, List.getElem_cons_succ]
  refine wpAnyH_take (i := 1) (v := ?_) (by rfl) (by kernel_rfl) (by kernel_rfl) (by kernel_rfl) (fun _ _ _ h => h) (Or.inl ⟨by rfl, ?_⟩) hHeld ?_
  rotate_left
  · intro w' hSw
    (try dsimp only at hSw)
    simp only [List.getElem_toArray, List.getElem_cons_zero, List.getElem_cons_succ]
    go_simp
    all_goals (try with_reducible rfl)
  try simp only [Act.put, List.setIfInBounds_toArray, List.set_cons_zero, List.set_cons_succ, List.getElem_toArray, List.getElem_cons_zero, List.getElem_cons_succ]
  refine wpAnyH_take (i := 2) (v := _) (by rfl) (by kernel_rfl) (by kernel_rfl) (by kernel_rfl) (fun _ _ _ h => h) (yieldsIf_slice (by rfl) _ (.tmp 59) (.tmp 60) (by rfl) rfl rfl VS2.out) hHeld ?_
  try simp only [Act.put, List.setIfInBounds_toArray, List.set_cons_zero, List.set_cons_succ, List.getElem_toArray, List.getElem_cons_zero, List.getElem_cons_succ]
  refine wpAnyH_take (i := 3) (v := ?_) (by rfl) (by kernel_rfl) (by kernel_rfl) (by kernel_rfl) (fun _ _ _ h => h) (Or.inl ⟨by rfl, ?_⟩) hHeld ?_
  rotate_left
  · intro w' hSw
    (try dsimp only at hSw)
    simp only [List.getElem_toArray, List.getElem_cons_zero, List.getElem_cons_succ]
    go_simp
    all_goals (try with_reducible rfl)
  try simp only [Act.put, List.setIfInBounds_toArray, List.set_cons_zero, List.set_cons_succ, List.getElem_toArray, List.getElem_cons_zero, List.getElem_cons_succ]
  refine wpAnyH_take (i := 4) (v := ?_) (by rfl) (by kernel_rfl) (by kernel_rfl) (by kernel_rfl) (fun _ _ _ h => h) (Or.inl ⟨by rfl, ?_⟩) hHeld ?_
  rotate_left
  · intro w' hSw
    (try dsimp only at hSw)
    simp only [List.getElem_toArray, List.getElem_cons_zero, List.getElem_cons_succ]
    go_simp
    all_goals (try with_reducible rfl)
  try simp only [Act.put, List.setIfInBounds_toArray, List.set_cons_zero, List.set_cons_succ, List.getElem_toArray, List.getElem_cons_zero, List.getElem_cons_succ]
  refine wpAnyH_ready (rs := [5]) (by kernel_rfl) (by simp) ?_
  refine AllReadyH.cons (by rfl) (fun K hK => ?_) AllReadyH.nil
  simp only [List.getElem_toArray, List.getElem_cons_zero, List.getElem_cons_succ]
  refine wp_copy_of (.tmp 61) (.tmp 63) rfl rfl rfl VC3.out ?_
  (try dsimp only)
  refine hK.out _ _ D2.out (fun hHeld => ?_)
  clear hK K
  try simp only [Act.put, List.setIfInBounds_toArray, List.set_cons_zero, List.set_cons_succ, List.getElem_toArray, List.getElem_cons_zero, List.getElem_cons_succ]
  refine wpAnyH_done (by kernel_rfl) ?_ _
  refine NoPanic.normal ?_
  clear hHeld
  go_wp2_with fail
  refine bodyPost_ret (results_tmp2 rfl _ _ _) rfl ?_
  exact ⟨g, N, hwg, VNL.out, rfl, V10.out.at mem0, V10.out.below⟩

set_option linter.unusedSimpArgs false in
set_option maxHeartbeats 8000000 in
theorem codePut_ap_no (k : Pk) (A : Option Addr) (n c : Nat) (zs : List Int) (w : World) (M : Ends k) (V : Holds k) (hs : Slc w (.slice A n c) zs) (hok : ¬ OkP k n) (hn : n ≤ 16000000) (ha : k.alert = true) (hi : k.frag.is = true) :
    Calls Try.prog 11 #[pv k (.slice A n c)] w (PutNo w) := by
  have hzl := (slc_of hs).1
  obtain ⟨m, hm⟩ : ∃ m, 16 + n = m := ⟨_, rfl⟩
  obtain ⟨N, hN⟩ : ∃ N, 40 + m = N := ⟨_, rfl⟩
  unfold OkP sizeP at hok
  rw [ha, hi] at hok
  simp only [if_true, if_false, Bool.false_eq_true, false_implies, and_true, forall_const] at hok
  have hlong : (65535 : Int) < (m : Int) ∨ (¬ (65535 : Int) < (m : Int) ∧ (8191 : Int) < k.frag.off) := by omega
  clear hok
  have hM : m ≤ 16000016 := by omega
  have e1 : 16 + (n : Int) = (m : Int) := by omega
  have e2 : 40 + (m : Int) = (N : Int) := by omega
  have hw1 : IntKind.i64.wrap (16 + (n : Int)) = (m : Int) := by rw [IntKind.wrap_i64]; omega
  have hw2 : IntKind.i64.wrap (40 + (m : Int)) = (N : Int) := by rw [IntKind.wrap_i64]; omega
  have hw3 : IntKind.i64.wrap (m : Int) = (m : Int) := by rw [IntKind.wrap_i64]; omega
  have VHM := veil hm
  have VHN := veil hN
  clear hm hN
  have Y := (Lay.begin w).new (pc k (.slice A n c)) 30 (g := w.heap.size) rfl
  have VM := veil M
  have VV := veil V
  have HS := veil hs
  have y1 : (w.alloc (.cells (pc k (.slice A n c)).toArray 30)).cell? ⟨w.heap.size, 38, none⟩ = some (.int .u8 k.next) := Y.look mem0 (pc_next M)
  have y2 : (w.alloc (.cells (pc k (.slice A n c)).toArray 30)).cell? ⟨w.heap.size, 34, none⟩ = some (.bool true) := by have := Y.range mem0 (pc_frag M) 0 _ rfl; rw [← hi]; exact this
  have P0 := veil (pktAt Y mem0 M).frag
  have KP := veil (partHead_any k.next k.frag (w.alloc (.cells (pc k (.slice A n c)).toArray 30)) hi V.id V.off)
  have VY := veil Y
  clear Y hs M V
  go_enter Try.func11, Try.ntmps11
  go_wp2_with (refine wpList_load_of rfl _ rfl rfl P0.out ?_)
  refine (KP.out).mono ?_
  rintro e w1 ⟨g1, hg1, rfl, r1, q1⟩
  have Y := VY.out.got q1 r1 hg1
  clear KP P0 VY y1 y2 r1 q1
  have d1 : w1.cell? ⟨w.heap.size, 33, none⟩ = some (.bool true) := by have := Y.look mem1 (pc_alert VM.out); rw [ha] at this; exact this
  have VY := veil Y
  have KA := veil (alertHead_any 44 w1)
  clear Y
  go_wp2_with fail
  refine (KA.out).mono ?_
  rintro e w2 ⟨rfl, hw2⟩
  have Y2 := VY.out.new (bv [44, 0, 5, 2, 0, 0, 1, 0]) 5 (g := w1.heap.size) rfl
  rw [hw2] at Y2
  have G2 := Grow.whole Y2 (by rfl : _ = 8) (by omega) (fun x hx => VY.out.lt hx)
  obtain ⟨B2, hB2⟩ : ∃ B2, w1.heap.size = B2 := ⟨_, rfl⟩
  rw [hB2] at G2
  have S2 : Slc w2 (.slice (some ⟨g1, 0, none⟩) 8 8) (ptB k.next k.frag) := .inr ⟨_, 8, by rw [ptB_len], rd_whole (G2.lay.at mem0), Nat.le_of_eq (ptB_len _ _)⟩
  obtain ⟨v3, w3, h3, G3⟩ := G2.append S2 (by simp [ptB_len]) 28
  obtain ⟨A3, c3, e3, _, _⟩ := G3.own.slc.slice
  replace e3 : v3 = .slice A3 16 c3 := by rw [e3]; simp [ptB_len]
  subst e3
  have SH := G3.own.slc
  have Y := G3.lay
  have H3 := veil h3
  rw [← hB2] at H3
  clear KA VY Y2 G2 S2 G3 h3 hw2 hB2 d1
  have d2 : w3.cell? ⟨w.heap.size, 39, none⟩ = some (.slice A n c) := Y.look mem1 (pc_body VM.out)
  have d3 : w3.cell? ⟨w.heap.size, 34, none⟩ = some (.bool true) := by have := Y.range mem1 (pc_frag VM.out) 0 _ rfl; rw [← hi]; exact this
  have d4 : w3.cell? ⟨w.heap.size, 36, none⟩ = some (.int .u16 k.frag.off) := Y.range mem1 (pc_frag VM.out) 2 _ rfl
  have VQ := veil Y.below
  clear Y SH
  rcases hlong with hlong | ⟨hl1, hl2⟩
  · skip
    go_wp2_with (at_builtin; refine wpList_append_run rfl (.tmp 21) (.tmp 22) rfl rfl rfl H3.out ?_)
    refine bodyPost_ret (results_tmp2 rfl _ _ _) rfl ?_
    exact ⟨rfl, VQ.out⟩
  · skip
    go_wp2_with (at_builtin; refine wpList_append_run rfl (.tmp 21) (.tmp 22) rfl rfl rfl H3.out ?_)
    refine bodyPost_ret (results_tmp2 rfl _ _ _) rfl ?_
    exact ⟨rfl, VQ.out⟩

theorem codePut_ok (k : Pk) (A : Option Addr) (n c : Nat) (zs : List Int) (w : World) (M : Ends k) (V : Holds k) (hs : Slc w (.slice A n c) zs) (hok : OkP k n) : Calls Try.prog 11 #[pv k (.slice A n c)] w (PutOk w (pb k zs)) := by
  cases ha : k.alert <;> cases hi : k.frag.is
  · exact codePut_nn k A n c zs w M V hs hok ha hi
  · exact codePut_np k A n c zs w M V hs hok ha hi
  · exact codePut_an k A n c zs w M V hs hok ha hi
  · exact codePut_ap k A n c zs w M V hs hok ha hi
theorem codePut_long (k : Pk) (A : Option Addr) (n c : Nat) (zs : List Int) (w : World) (M : Ends k) (V : Holds k) (hs : Slc w (.slice A n c) zs) (hok : ¬ OkP k n) (hn : n ≤ 16000000) : Calls Try.prog 11 #[pv k (.slice A n c)] w (PutNo w) := by
  cases ha : k.alert <;> cases hi : k.frag.is
  · exact codePut_nn_no k A n c zs w M V hs hok hn ha hi
  · exact codePut_np_no k A n c zs w M V hs hok hn ha hi
  · exact codePut_an_no k A n c zs w M V hs hok hn ha hi
  · exact codePut_ap_no k A n c zs w M V hs hok hn ha hi

end Go.Proofs.Ytfkjfdmepeahnaa.Hd
