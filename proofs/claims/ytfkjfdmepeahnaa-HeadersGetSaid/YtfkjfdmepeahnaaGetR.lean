/-
  A packet out of bytes, by the document's answer, where a chain is told.
  Conditions: at most 16000000 bytes.
-/
import Derived.Test.YtfkjfdmepeahnaaGetQ
import Derived.Test.YtfkjfdmepeahnaaHdrA
import Derived.Deep.CutRange
import Derived.Test.YtfkjfdmepeahnaaLwc
namespace Go.Proofs.Ytfkjfdmepeahnaa.Hd
set_option maxRecDepth 100000
open Go.RowKit Ops

theorem slc_take {w : World} {A : Option Addr} {n c k : Nat} {zs : List Int} (h : Slc w (.slice A n c) zs) (hk : k ≤ n) : Slc w (.slice A k c) (zs.take k) := by
  obtain ⟨hl, hr, hc⟩ := slc_of h
  rcases h with ⟨e, rfl⟩ | ⟨a, c', e, hr2, hc2⟩
  · injection e with e1 e2 e3
    subst e1 e2 e3
    have : k = 0 := by omega
    subst this
    exact .inl ⟨rfl, rfl⟩
  · injection e with e1 e2 e3
    subst e1 e2 e3
    have e4 : (zs.take k).length = k := by simp; omega
    exact .inr ⟨a, c, by rw [e4], hr.take k, by rw [e4]; omega⟩
theorem _root_.Go.Proofs.Ytfkjfdmepeahnaa.Slc.setCellFar {w : World} {A : Option Addr} {n c g : Nat} {zs : List Int} (h : Slc w (.slice A n c) zs) (ho : Off A g) (i : Nat) (u : Value) : Slc (w.setCell ⟨g, i, none⟩ u) (.slice A n c) zs := by
  rcases h with ⟨e1, e2⟩ | ⟨b, c', e1, hr, e3⟩
  · exact .inl ⟨e1, e2⟩
  · injection e1 with e4 e5 e6
    subst e4 e5 e6
    exact .inr ⟨b, c, rfl, hr.far ho i u, e3⟩
theorem yieldsIf_lohi {P : Program} {ops : Array Oper} {S : World → Prop} {op : Oper} {a : Act} {u l k v : Value} (hw : Region.wanted op (yielded ops a.tmps) = true) (t : TypeId) (x lo hi : Operand) (ho : op.op = .slice t x (some lo) (some hi) none) (hx : a.eval x = u) (hl : a.eval lo = l) (hk : a.eval hi = k)
    (hrun : ∀ w, (Instr.sliceAt t u (some l) (some k) none).run P w = .ok v w) : YieldsIf P ops S op v a :=
  .inl ⟨hw, fun w _ => by
    unfold execOp
    simp only [ho, hx, hl, hk, hrun, Option.map_some, Option.map_none, Sem.run_bind, Sem.run_pure, Result.andThen_ok]⟩
theorem made_hops (x : Int) (w : World) : (Instr.build 30 #[(2, .int .u8 x)]).run Try.prog w = .ok (pv { noPk with hops := x } nilV) w := by
  have e : (pc { noPk with hops := x } nilV).toArray = zp.set! 32 (.int .u8 x) := by
    rw [← pc_set_hops noPk_ends, show zp = (pc noPk nilV).toArray from zp_pc]
    simp
  have h : (Instr.build 30 #[(2, .int .u8 x)]).run Try.prog w = .ok (.agg (zp.set! 32 (.int .u8 x))) w := by kernel_rfl
  rw [← e] at h
  exact h

theorem below_setRow_new (w : World) (o : Obj) (cs : Array Value) : Below w.heap.size (w.alloc o) ((w.alloc o).setRow w.heap.size cs) :=
  ⟨rfl, rfl, rfl, by simp [World.setRow], fun b hb => by unfold World.setRow; rw [Array.getElem?_modify, if_neg (fun e => absurd hb (by omega))]⟩

/-- what the document's Get tells of bytes with a chain -/
def gotR (zs : List Int) : Pk × List Int × Int × Int × Int :=
  if (tellB zs).e = 7 then ({ baseK zs with alert := (tellB zs).alert }, [], (tellB zs).code, (tellB zs).place, (tellB zs).e)
  else if (tellB zs).e = 0 then (gotK zs, (tellB zs).rest, 0, 0, 0) else (noPk, [], (tellB zs).code, (tellB zs).place, (tellB zs).e)
set_option linter.unusedSimpArgs false in
set_option maxHeartbeats 16000000 in
theorem refGet_rest (A : Option Addr) (n c : Nat) (zs : List Int) (w : World) (hs : Slc w (.slice A n c) zs) (hz : Byt zs) (hl : zs.length = n) (hn : n ≤ 16000000) (h : 40 ≤ n) (hf : zs.getD 0 0 / 16 = 6) (hge : 40 + manyB zs ≤ n) : Calls Try.prog 19 #[.slice A n c] w (GotR w (gotR zs).1 (gotR zs).2.1 (gotR zs).2.2.1 (gotR zs).2.2.2.1 (gotR zs).2.2.2.2) := by
  obtain ⟨Z, hZ⟩ : ∃ Z, Z = zp := ⟨_, rfl⟩
  obtain ⟨X, hX⟩ : ∃ X : Array Value, X = #[.int .u8 0, .int .u32 0] := ⟨_, rfl⟩
  have hzl : Hid (Z.toList.length = 40) := by rw [hZ]; exact rfl
  have hxl : Hid (X.toList.length = 2) := by rw [hX]; exact rfl
  have Y := ((Lay.begin w).newA Z 30 (g := w.heap.size) rfl).newA X 45 (g := w.heap.size + 1) (by simp)
  have i1 : ¬ (n : Int) < 40 := by omega
  have i0 : (0 : Int) < (n : Int) := by omega
  have hb := hz.at_ 0
  obtain ⟨a, ha, ca⟩ := ((slc_rd hs).1.keep Y.below) 0 (by omega)
  subst ha
  rw [show a.add 0 = a by simp [Addr.add]] at ca
  generalize hx0 : zs.getD 0 0 = x at *
  have dq : x.tdiv 16 = x / 16 := Int.tdiv_eq_ediv_of_nonneg hb.1
  have dw : IntKind.u8.wrap (x / 16) = x / 16 := by rw [IntKind.wrap_u8]; omega
  have d6 : (x / 16 == 6) = true := by simpa using hf
  obtain ⟨hm, hmb⟩ := many_bound hz (by omega)
  obtain ⟨m, hmm⟩ : ∃ m, manyB zs = m := ⟨_, rfl⟩
  obtain ⟨x4, hx4⟩ : ∃ x, zs.getD 4 0 = x := ⟨_, rfl⟩
  obtain ⟨x5, hx5⟩ : ∃ x, zs.getD 5 0 = x := ⟨_, rfl⟩
  have b4 := hz.at_ 4
  have b5 := hz.at_ 5
  rw [hx4] at b4
  rw [hx5] at b5
  have hm2 : 256 * x4 + x5 = (m : Int) := by rw [← hmm, ← hm, num_two 4 (by omega), hx4, hx5]
  have HW : Hid (IntKind.i64.wrap (IntKind.i64.wrap (256 * IntKind.i64.wrap x4) + IntKind.i64.wrap x5) = (m : Int)) := by
    show IntKind.i64.wrap (IntKind.i64.wrap (256 * IntKind.i64.wrap x4) + IntKind.i64.wrap x5) = (m : Int)
    simp only [IntKind.wrap_i64]
    omega
  have VYD := veil Y.drew
  have RD := (slc_rd hs).1
  have S0 := veil (And.intro (Rd.here (RD.keep VYD.out.below) 4 (by omega) (by omega) hx4) (Rd.here (RD.keep VYD.out.below) 5 (by omega) (by omega) hx5))
  have i4 : (4 : Int) < (n : Int) := by omega
  have i5 : (5 : Int) < (n : Int) := by omega
  have hw40 : IntKind.i64.wrap (40 + (m : Int)) = 40 + (m : Int) := by rw [hmm] at hmb; rw [IntKind.wrap_i64]; omega
  have iL : ¬ (n : Int) < 40 + (m : Int) := by omega
  obtain ⟨x6, hx6⟩ : ∃ x, zs.getD 6 0 = x := ⟨_, rfl⟩
  obtain ⟨x7, hx7⟩ : ∃ x, zs.getD 7 0 = x := ⟨_, rfl⟩
  have i7 : (7 : Int) < (n : Int) := by omega
  have i6 : (6 : Int) < (n : Int) := by omega
  have c7 := Rd.here (RD.keep VYD.out.below) 7 (by omega) (by omega) hx7
  obtain ⟨u0, hu0⟩ : ∃ u, ((w.alloc (.cells Z 30)).alloc (.cells X 45)).drew = u := ⟨_, rfl⟩
  have hu0s : u0.heap.size = w.heap.size + 1 + 1 := by rw [← hu0]; simp
  rw [hu0] at VYD S0 c7
  have Y8 := VYD.out.newA Z 30 (g := w.heap.size + 1 + 1) hu0s.symm
  have T8 := veil (pkt_store (k := { noPk with hops := x7 }) (v := nilV) Y8 mem0 hzl.out ⟨rfl, rfl⟩ rfl)
  have Y9 := Y8.put 0 rfl (pc { noPk with hops := x7 } nilV)
  simp only [List.set_cons_zero] at Y9
  obtain ⟨u1, hu1⟩ : ∃ u, (u0.alloc (.cells Z 30)).setRow (w.heap.size + 1 + 1) (pc { noPk with hops := x7 } nilV).toArray = u := ⟨_, rfl⟩
  rw [hu1] at T8 Y9
  have M7 := veil (made_hops x7)
  obtain ⟨k0, hk0⟩ : ∃ k : Pk, { noPk with hops := x7 } = k := ⟨_, rfl⟩
  have E0 : Hid (Hd.Ends k0) := veil (by rw [← hk0]; exact ⟨rfl, rfl⟩)
  rw [hk0] at T8 Y9 M7
  have RU := RD.keep (Lay.below Y9)
  have V9D := Y9.drew
  have HD8 := slc_take (slc_drop (hs.keep V9D.below) (k := 8) (by omega)) (k := 16) (by omega)
  have e8 : Hid (((zs.drop 8).take 16).length = 16) := veil (by simp; omega)
  have e24 : Hid (((zs.drop 24).take 16).length = 16) := veil (by simp; omega)
  have SL8 := veil (fun u : World => slice_lohi (A := some a) (n := n) (c := c) (j := 8) (k := 24) (by omega) (by have := slc_cap hs; omega) u)
  have SL24 := veil (fun u : World => slice_lohi (A := some a) (n := n) (c := c) (j := 24) (k := 40) (by omega) (by have := slc_cap hs; omega) u)
  have CP8 := fun ty => copy_into (B := some ⟨w.heap.size + 1 + 1, 0, none⟩) (o := 0) (N := 16) (c := 16) ty HD8 (V9D.at mem0) (fun _ => rfl) (Nat.le_refl _) (by rw [pc_len E0.out]; omega)
  have q8 := pc_put_s (v := nilV) E0.out e8.out
  rw [bv_length, e8.out] at q8
  rw [q8] at CP8
  have Y10 := V9D.put 0 rfl (pc { k0 with s := (zs.drop 8).take 16 } nilV)
  simp only [List.set_cons_zero] at Y10
  obtain ⟨u2, hu2⟩ : ∃ u, u1.drew.setRow (w.heap.size + 1 + 1) (pc { k0 with s := (zs.drop 8).take 16 } nilV).toArray = u := ⟨_, rfl⟩
  rw [hu2] at Y10
  simp only [hu2] at CP8
  have E1 : Hid (Hd.Ends ({ k0 with s := (zs.drop 8).take 16 } : Pk)) := veil ⟨e8.out, E0.out.d⟩
  have V10D := Y10.drew
  have HD24 := slc_take (slc_drop (hs.keep V10D.below) (k := 24) (by omega)) (k := 16) (by omega)
  have CP24 := fun ty => copy_into (B := some ⟨w.heap.size + 1 + 1, 16, none⟩) (o := 16) (N := 16) (c := 16) ty HD24 (V10D.at mem0) (fun _ => rfl) (Nat.le_refl _) (by rw [pc_len E1.out]; omega)
  have q24 := pc_put_d (v := nilV) E1.out e24.out
  rw [bv_length, e24.out] at q24
  rw [q24] at CP24
  obtain ⟨kb, hkb⟩ : ∃ k, baseK zs = k := ⟨_, rfl⟩
  have hkb2 : ({ ({ k0 with s := (zs.drop 8).take 16 } : Pk) with d := (zs.drop 24).take 16 } : Pk) = kb := by rw [← hkb, ← hk0, baseK, hx7]; rfl
  have BE : Hid (Hd.Ends kb) := veil (by rw [← hkb]; exact base_ends (by omega))
  have Y11 := V10D.put 0 rfl (pc kb nilV)
  simp only [List.set_cons_zero] at Y11
  simp only [hkb2] at CP24
  obtain ⟨u3, hu3⟩ : ∃ u, u2.drew.setRow (w.heap.size + 1 + 1) (pc kb nilV).toArray = u := ⟨_, rfl⟩
  rw [hu3] at Y11
  simp only [hu3] at CP24
  have V11D := Y11.drew
  have S11 := veil (And.intro (Rd.here (RD.keep V11D.below) 6 (by omega) (by omega) hx6) (V11D.range mem0 (pc_dst BE.out)))
  obtain ⟨mcb, hmcb⟩ : ∃ b, decide (zs.getD 24 0 = 255) = b := ⟨_, rfl⟩
  have hT0 : tellB zs = chain x6 ((zs.drop 40).take m) 40 mcb := by unfold tellB; rw [hx6, hmm, hmcb]
  obtain ⟨T, hT⟩ : ∃ T, tellB zs = T := ⟨_, rfl⟩
  have VT := veil hT
  rw [hT] at hT0
  have b6 := hz.at_ 6
  rw [hx6] at b6
  have KM : Hid (∀ u, Calls Try.prog 35 #[av kb.d] u fun e w' => e = .returned (.bool mcb) ∧ Below u.heap.size u w') := veil (fun u => by have h := refMc kb.d u BE.out.d; rw [← hkb, base_dst, hmcb] at h; rw [← hkb]; exact h)
  have KC : Hid (∀ u, Below w.heap.size w u → Calls Try.prog 23 #[.int .u8 x6, .slice (cutA (some a) c 40) m (c - 40), .int .u32 40, .bool mcb] u (Tells u T)) := veil (fun u hb => by rw [hT0]; exact chain_any x6 ((zs.drop 40).take m) (cutA (some a) c 40) m (c - 40) 40 mcb u b6 (slc_take (slc_drop (hs.keep hb) (k := 40) (by omega)) (by omega)) ((hz.drop 40).take m) (by omega) (by omega))
  have SLH : Hid (∀ u : World, (Instr.sliceAt 28 (.slice (some a) n c) (some (.int .i64 40)) (some (.int .i64 (40 + (m : Int)))) none).run Try.prog u = .ok (.slice (cutA (some a) c 40) m (c - 40)) u) := veil (fun u => by have h := slice_lohi (A := some a) (n := n) (c := c) (j := 40) (k := 40 + m) (by omega) (by have := slc_cap hs; omega) u; rw [show 40 + m - 40 = m by omega] at h; exact h)
  have hL6 : Hid (6 < zs.length) := veil (by omega)
  have VX6 := veil hx6
  have VRD := veil RD
  have VKB := veil hkb
  have VY11 := veil V11D
  replace CP8 := veil CP8
  replace CP24 := veil CP24
  replace SL8 := SL8.out
  replace SL24 := SL24.out
  simp only [Nat.reduceSub] at SL8 SL24
  replace SL8 := veil SL8
  replace SL24 := veil SL24
  clear V9D V10D V11D Y8 Y9 Y10 Y11 hu1 hu2 hu3 q8 q24 HD8 HD24 hkb2 hkb hk0 hT hT0 hmcb b6 hx6 RD RU VYD e8 e24 E1 E0 hu0s hx7 hx4 hx5 hm2 hm hmb hmm b4 b5 hge hs hz hl hx0 Y hf
  generalize cutA (some a) c 40 = A4 at *
  generalize cutA (some a) c 8 = A8 at *
  generalize cutA (some a) c 24 = A24 at *
  subst hu0
  generalize Z.toList = ZL at *
  generalize X.toList = XL at *
  unfold zp at hZ
  subst hZ hX
  go_enter Try.func19, Try.ntmps19
  go_wp2_with fail
  refine wp_region_noPanic ?_
  refine wp_region_held_drew (S := (fun w' => w'.cell? ⟨a.block, a.off + 4, none⟩ = some (.int .u8 x4) ∧ w'.cell? ⟨a.block, a.off + 5, none⟩ = some (.int .u8 x5))) (by kernel_rfl) S0.out (fun hHeld => ?_)
  refine wpAnyH_take (i := 0) (v := ?_) (by rfl) (by kernel_rfl) (by kernel_rfl) (by kernel_rfl) (fun _ _ _ h => h) (Or.inl ⟨by rfl, ?_⟩) hHeld ?_
  rotate_left
  · intro w' hSw
    (try dsimp only at hSw)
    simp only [List.getElem_toArray, List.getElem_cons_zero, List.getElem_cons_succ]
    go_simp
    all_goals (try with_reducible rfl)
  try simp only [Act.put, List.setIfInBounds_toArray, List.set_cons_zero, List.set_cons_succ, List.getElem_toArray, List.getElem_cons_zero, List.getElem_cons_succ]
  refine wpAnyH_take (i := 1) (v := ?_) (by rfl) (by kernel_rfl) (by kernel_rfl) (by kernel_rfl) (fun _ _ _ h => h) (Or.inl ⟨by rfl, ?_⟩) hHeld ?_
  rotate_left
  · intro w' hSw
    (try dsimp only at hSw)
    simp only [List.getElem_toArray, List.getElem_cons_zero, List.getElem_cons_succ]
    go_simp
    all_goals (try with_reducible rfl)
  try simp only [Act.put, List.setIfInBounds_toArray, List.set_cons_zero, List.set_cons_succ, List.getElem_toArray, List.getElem_cons_zero, List.getElem_cons_succ]
  refine wpAnyH_take (i := 2) (v := ?_) (by rfl) (by kernel_rfl) (by kernel_rfl) (by kernel_rfl) (fun _ _ _ h => h) (Or.inl ⟨by rfl, ?_⟩) hHeld ?_
  rotate_left
  · intro w' hSw
    (try dsimp only at hSw)
    simp only [List.getElem_toArray, List.getElem_cons_zero, List.getElem_cons_succ]
    go_simp
    all_goals (try with_reducible rfl)
  try simp only [Act.put, List.setIfInBounds_toArray, List.set_cons_zero, List.set_cons_succ, List.getElem_toArray, List.getElem_cons_zero, List.getElem_cons_succ]
  refine wpAnyH_take (i := 3) (v := ?_) (by rfl) (by kernel_rfl) (by kernel_rfl) (by kernel_rfl) (fun _ _ _ h => h) (Or.inl ⟨by rfl, ?_⟩) hHeld ?_
  rotate_left
  · intro w' hSw
    (try dsimp only at hSw)
    simp only [List.getElem_toArray, List.getElem_cons_zero, List.getElem_cons_succ]
    go_simp
    all_goals (try with_reducible rfl)
  try simp only [Act.put, List.setIfInBounds_toArray, List.set_cons_zero, List.set_cons_succ, List.getElem_toArray, List.getElem_cons_zero, List.getElem_cons_succ]
  refine wpAnyH_take (i := 4) (v := ?_) (by rfl) (by kernel_rfl) (by kernel_rfl) (by kernel_rfl) (fun _ _ _ h => h) (Or.inl ⟨by rfl, ?_⟩) hHeld ?_
  rotate_left
  · intro w' hSw
    (try dsimp only at hSw)
    simp only [List.getElem_toArray, List.getElem_cons_zero, List.getElem_cons_succ]
    go_simp
    all_goals (try with_reducible rfl)
  try simp only [Act.put, List.setIfInBounds_toArray, List.set_cons_zero, List.set_cons_succ, List.getElem_toArray, List.getElem_cons_zero, List.getElem_cons_succ]
  refine wpAnyH_take (i := 5) (v := ?_) (by rfl) (by kernel_rfl) (by kernel_rfl) (by kernel_rfl) (fun _ _ _ h => h) (Or.inl ⟨by rfl, ?_⟩) hHeld ?_
  rotate_left
  · intro w' hSw
    (try dsimp only at hSw)
    simp only [List.getElem_toArray, List.getElem_cons_zero, List.getElem_cons_succ]
    go_simp
    all_goals (try with_reducible rfl)
  try simp only [Act.put, List.setIfInBounds_toArray, List.set_cons_zero, List.set_cons_succ, List.getElem_toArray, List.getElem_cons_zero, List.getElem_cons_succ]
  refine wpAnyH_take (i := 6) (v := ?_) (by rfl) (by kernel_rfl) (by kernel_rfl) (by kernel_rfl) (fun _ _ _ h => h) (Or.inl ⟨by rfl, ?_⟩) hHeld ?_
  rotate_left
  · intro w' hSw
    (try dsimp only at hSw)
    simp only [List.getElem_toArray, List.getElem_cons_zero, List.getElem_cons_succ]
    go_simp
    all_goals (try with_reducible rfl)
  try simp only [Act.put, List.setIfInBounds_toArray, List.set_cons_zero, List.set_cons_succ, List.getElem_toArray, List.getElem_cons_zero, List.getElem_cons_succ]
  refine wpAnyH_take (i := 7) (v := ?_) (by rfl) (by kernel_rfl) (by kernel_rfl) (by kernel_rfl) (fun _ _ _ h => h) (Or.inl ⟨by rfl, ?_⟩) hHeld ?_
  rotate_left
  · intro w' hSw
    (try dsimp only at hSw)
    simp only [List.getElem_toArray, List.getElem_cons_zero, List.getElem_cons_succ]
    go_simp
    all_goals (try with_reducible rfl)
  try simp only [Act.put, List.setIfInBounds_toArray, List.set_cons_zero, List.set_cons_succ, List.getElem_toArray, List.getElem_cons_zero, List.getElem_cons_succ]
  refine wpAnyH_take (i := 8) (v := ?_) (by rfl) (by kernel_rfl) (by kernel_rfl) (by kernel_rfl) (fun _ _ _ h => h) (Or.inl ⟨by rfl, ?_⟩) hHeld ?_
  rotate_left
  · intro w' hSw
    (try dsimp only at hSw)
    simp only [List.getElem_toArray, List.getElem_cons_zero, List.getElem_cons_succ]
    go_simp
    all_goals (try with_reducible rfl)
  try simp only [Act.put, List.setIfInBounds_toArray, List.set_cons_zero, List.set_cons_succ, List.getElem_toArray, List.getElem_cons_zero, List.getElem_cons_succ]
  refine wpAnyH_take (i := 9) (v := ?_) (by rfl) (by kernel_rfl) (by kernel_rfl) (by kernel_rfl) (fun _ _ _ h => h) (Or.inl ⟨by rfl, ?_⟩) hHeld ?_
  rotate_left
  · intro w' hSw
    (try dsimp only at hSw)
    simp only [List.getElem_toArray, List.getElem_cons_zero, List.getElem_cons_succ]
    go_simp
    all_goals (try with_reducible rfl)
  try simp only [Act.put, List.setIfInBounds_toArray, List.set_cons_zero, List.set_cons_succ, List.getElem_toArray, List.getElem_cons_zero, List.getElem_cons_succ]
  rw [HW.out]
  refine wpAnyH_take (i := 10) (v := ?_) (by rfl) (by kernel_rfl) (by kernel_rfl) (by kernel_rfl) (fun _ _ _ h => h) (Or.inl ⟨by rfl, ?_⟩) hHeld ?_
  rotate_left
  · intro w' hSw
    (try dsimp only at hSw)
    simp only [List.getElem_toArray, List.getElem_cons_zero, List.getElem_cons_succ]
    go_simp
    all_goals (try with_reducible rfl)
  try simp only [Act.put, List.setIfInBounds_toArray, List.set_cons_zero, List.set_cons_succ, List.getElem_toArray, List.getElem_cons_zero, List.getElem_cons_succ]
  refine wpAnyH_done (by kernel_rfl) ?_ _
  refine NoPanic.normal ?_
  clear hHeld
  clear S0
  go_wp2_with (first
    | (refine wpList_build_of rfl 30 _ rfl #[(2, .int .u8 x7)] (by simp [Act.eval]) (M7.out _) ?_)
    | (refine wpList_store_of rfl _ _ rfl rfl rfl T8.out ?_))
  clear T8 M7 c7 hn d6 dq dw hb
  refine wp_region_noPanic ?_
  refine wp_region_held_drew (S := (fun _ => True)) (by kernel_rfl) trivial (fun hHeld => ?_)
  refine wpAnyH_take (i := 0) (v := ?_) (by rfl) (by kernel_rfl) (by kernel_rfl) (by kernel_rfl) (fun _ _ _ h => h) (Or.inl ⟨by rfl, ?_⟩) hHeld ?_
  rotate_left
  · intro w' hSw
    (try dsimp only at hSw)
    simp only [List.getElem_toArray, List.getElem_cons_zero, List.getElem_cons_succ]
    go_simp
    all_goals (try with_reducible rfl)
  try simp only [Act.put, List.setIfInBounds_toArray, List.set_cons_zero, List.set_cons_succ, List.getElem_toArray, List.getElem_cons_zero, List.getElem_cons_succ]
  refine wpAnyH_take (i := 1) (v := ?_) (by rfl) (by kernel_rfl) (by kernel_rfl) (by kernel_rfl) (fun _ _ _ h => h) (Or.inl ⟨by rfl, ?_⟩) hHeld ?_
  rotate_left
  · intro w' hSw
    (try dsimp only at hSw)
    simp only [List.getElem_toArray, List.getElem_cons_zero, List.getElem_cons_succ]
    go_simp
    all_goals (try with_reducible rfl)
  try simp only [Act.put, List.setIfInBounds_toArray, List.set_cons_zero, List.set_cons_succ, List.getElem_toArray, List.getElem_cons_zero, List.getElem_cons_succ]
  refine wpAnyH_take (i := 2) (v := ?_) (by rfl) (by kernel_rfl) (by kernel_rfl) (by kernel_rfl) (fun _ _ _ h => h) (Or.inl ⟨by rfl, ?_⟩) hHeld ?_
  rotate_left
  · intro w' hSw
    (try dsimp only at hSw)
    simp only [List.getElem_toArray, List.getElem_cons_zero, List.getElem_cons_succ]
    go_simp
    all_goals (try with_reducible rfl)
  try simp only [Act.put, List.setIfInBounds_toArray, List.set_cons_zero, List.set_cons_succ, List.getElem_toArray, List.getElem_cons_zero, List.getElem_cons_succ]
  refine wpAnyH_take (i := 3) (v := _) (by rfl) (by kernel_rfl) (by kernel_rfl) (by kernel_rfl) (fun _ _ _ h => h) (yieldsIf_lohi (by rfl) _ (.tmp 43) (.const (.int .i64 8)) (.const (.int .i64 24)) (by rfl) rfl rfl rfl SL8.out) hHeld ?_
  try simp only [Act.put, List.setIfInBounds_toArray, List.set_cons_zero, List.set_cons_succ, List.getElem_toArray, List.getElem_cons_zero, List.getElem_cons_succ]
  refine wpAnyH_ready (rs := [4]) (by kernel_rfl) (by simp) ?_
  refine AllReadyH.cons (by rfl) (fun K hK => ?_) AllReadyH.nil
  simp only [List.getElem_toArray, List.getElem_cons_zero, List.getElem_cons_succ]
  refine wp_copy_of (.tmp 42) (.tmp 44) rfl rfl rfl (CP8.out _) ?_
  (try dsimp only)
  refine hK.out _ _ trivial (fun hHeld => ?_)
  clear hK K
  try simp only [Act.put, List.setIfInBounds_toArray, List.set_cons_zero, List.set_cons_succ, List.getElem_toArray, List.getElem_cons_zero, List.getElem_cons_succ]
  refine wpAnyH_done (by kernel_rfl) ?_ _
  refine NoPanic.normal ?_
  clear hHeld
  clear CP8 SL8
  go_wp2_with fail
  refine wp_region_noPanic ?_
  refine wp_region_held_drew (S := (fun _ => True)) (by kernel_rfl) trivial (fun hHeld => ?_)
  refine wpAnyH_take (i := 0) (v := ?_) (by rfl) (by kernel_rfl) (by kernel_rfl) (by kernel_rfl) (fun _ _ _ h => h) (Or.inl ⟨by rfl, ?_⟩) hHeld ?_
  rotate_left
  · intro w' hSw
    (try dsimp only at hSw)
    simp only [List.getElem_toArray, List.getElem_cons_zero, List.getElem_cons_succ]
    go_simp
    all_goals (try with_reducible rfl)
  try simp only [Act.put, List.setIfInBounds_toArray, List.set_cons_zero, List.set_cons_succ, List.getElem_toArray, List.getElem_cons_zero, List.getElem_cons_succ]
  refine wpAnyH_take (i := 1) (v := ?_) (by rfl) (by kernel_rfl) (by kernel_rfl) (by kernel_rfl) (fun _ _ _ h => h) (Or.inl ⟨by rfl, ?_⟩) hHeld ?_
  rotate_left
  · intro w' hSw
    (try dsimp only at hSw)
    simp only [List.getElem_toArray, List.getElem_cons_zero, List.getElem_cons_succ]
    go_simp
    all_goals (try with_reducible rfl)
  try simp only [Act.put, List.setIfInBounds_toArray, List.set_cons_zero, List.set_cons_succ, List.getElem_toArray, List.getElem_cons_zero, List.getElem_cons_succ]
  refine wpAnyH_take (i := 2) (v := ?_) (by rfl) (by kernel_rfl) (by kernel_rfl) (by kernel_rfl) (fun _ _ _ h => h) (Or.inl ⟨by rfl, ?_⟩) hHeld ?_
  rotate_left
  · intro w' hSw
    (try dsimp only at hSw)
    simp only [List.getElem_toArray, List.getElem_cons_zero, List.getElem_cons_succ]
    go_simp
    all_goals (try with_reducible rfl)
  try simp only [Act.put, List.setIfInBounds_toArray, List.set_cons_zero, List.set_cons_succ, List.getElem_toArray, List.getElem_cons_zero, List.getElem_cons_succ]
  refine wpAnyH_take (i := 3) (v := _) (by rfl) (by kernel_rfl) (by kernel_rfl) (by kernel_rfl) (fun _ _ _ h => h) (yieldsIf_lohi (by rfl) _ (.tmp 48) (.const (.int .i64 24)) (.const (.int .i64 40)) (by rfl) rfl rfl rfl SL24.out) hHeld ?_
  try simp only [Act.put, List.setIfInBounds_toArray, List.set_cons_zero, List.set_cons_succ, List.getElem_toArray, List.getElem_cons_zero, List.getElem_cons_succ]
  refine wpAnyH_ready (rs := [4]) (by kernel_rfl) (by simp) ?_
  refine AllReadyH.cons (by rfl) (fun K hK => ?_) AllReadyH.nil
  simp only [List.getElem_toArray, List.getElem_cons_zero, List.getElem_cons_succ]
  refine wp_copy_of (.tmp 47) (.tmp 49) rfl rfl rfl (CP24.out _) ?_
  (try dsimp only)
  refine hK.out _ _ trivial (fun hHeld => ?_)
  clear hK K
  try simp only [Act.put, List.setIfInBounds_toArray, List.set_cons_zero, List.set_cons_succ, List.getElem_toArray, List.getElem_cons_zero, List.getElem_cons_succ]
  refine wpAnyH_done (by kernel_rfl) ?_ _
  refine NoPanic.normal ?_
  clear hHeld
  clear CP24 SL24
  go_wp2_with fail
  refine wp_region_noPanic ?_
  refine wp_region_held_drew (S := (fun w' => w'.cell? ⟨a.block, a.off + 6, none⟩ = some (.int .u8 x6) ∧ w'.rangeAt (w.heap.size + 1 + 1) 16 (bv kb.d))) (by kernel_rfl) S11.out (fun hHeld => ?_)
  refine wpAnyH_take (i := 0) (v := ?_) (by rfl) (by kernel_rfl) (by kernel_rfl) (by kernel_rfl) (fun _ _ _ h => h) (Or.inl ⟨by rfl, ?_⟩) hHeld ?_
  rotate_left
  · intro w' hSw
    (try dsimp only at hSw)
    simp only [List.getElem_toArray, List.getElem_cons_zero, List.getElem_cons_succ]
    go_simp
    all_goals (try with_reducible rfl)
  try simp only [Act.put, List.setIfInBounds_toArray, List.set_cons_zero, List.set_cons_succ, List.getElem_toArray, List.getElem_cons_zero, List.getElem_cons_succ]
  refine wpAnyH_take (i := 1) (v := ?_) (by rfl) (by kernel_rfl) (by kernel_rfl) (by kernel_rfl) (fun _ _ _ h => h) (Or.inl ⟨by rfl, ?_⟩) hHeld ?_
  rotate_left
  · intro w' hSw
    (try dsimp only at hSw)
    simp only [List.getElem_toArray, List.getElem_cons_zero, List.getElem_cons_succ]
    go_simp
    all_goals (try with_reducible rfl)
  try simp only [Act.put, List.setIfInBounds_toArray, List.set_cons_zero, List.set_cons_succ, List.getElem_toArray, List.getElem_cons_zero, List.getElem_cons_succ]
  refine wpAnyH_take (i := 2) (v := ?_) (by rfl) (by kernel_rfl) (by kernel_rfl) (by kernel_rfl) (fun _ _ _ h => h) (Or.inl ⟨by rfl, ?_⟩) hHeld ?_
  rotate_left
  · intro w' hSw
    (try dsimp only at hSw)
    simp only [List.getElem_toArray, List.getElem_cons_zero, List.getElem_cons_succ]
    go_simp
    all_goals (try with_reducible rfl)
  try simp only [Act.put, List.setIfInBounds_toArray, List.set_cons_zero, List.set_cons_succ, List.getElem_toArray, List.getElem_cons_zero, List.getElem_cons_succ]
  refine wpAnyH_take (i := 3) (v := ?_) (by rfl) (by kernel_rfl) (by kernel_rfl) (by kernel_rfl) (fun _ _ _ h => h) (Or.inl ⟨by rfl, ?_⟩) hHeld ?_
  rotate_left
  · intro w' hSw
    (try dsimp only at hSw)
    simp only [List.getElem_toArray, List.getElem_cons_zero, List.getElem_cons_succ]
    go_simp
    all_goals (try with_reducible rfl)
  try simp only [Act.put, List.setIfInBounds_toArray, List.set_cons_zero, List.set_cons_succ, List.getElem_toArray, List.getElem_cons_zero, List.getElem_cons_succ]
  refine wpAnyH_take (i := 4) (v := ?_) (by rfl) (by kernel_rfl) (by kernel_rfl) (by kernel_rfl) (fun _ _ _ h => h) (Or.inl ⟨by rfl, ?_⟩) hHeld ?_
  rotate_left
  · intro w' hSw
    (try dsimp only at hSw)
    simp only [List.getElem_toArray, List.getElem_cons_zero, List.getElem_cons_succ]
    go_simp
    all_goals (try with_reducible rfl)
  try simp only [Act.put, List.setIfInBounds_toArray, List.set_cons_zero, List.set_cons_succ, List.getElem_toArray, List.getElem_cons_zero, List.getElem_cons_succ]
  refine wpAnyH_take (i := 5) (v := ?_) (by rfl) (by kernel_rfl) (by kernel_rfl) (by kernel_rfl) (fun _ _ _ h => h) (Or.inl ⟨by rfl, ?_⟩) hHeld ?_
  rotate_left
  · intro w' hSw
    (try dsimp only at hSw)
    simp only [List.getElem_toArray, List.getElem_cons_zero, List.getElem_cons_succ]
    go_simp
    all_goals (try with_reducible rfl)
  try simp only [Act.put, List.setIfInBounds_toArray, List.set_cons_zero, List.set_cons_succ, List.getElem_toArray, List.getElem_cons_zero, List.getElem_cons_succ]
  refine wpAnyH_take (i := 6) (v := _) (by rfl) (by kernel_rfl) (by kernel_rfl) (by kernel_rfl) (fun _ _ _ h => h) (yieldsIf_lohi (by rfl) _ (.tmp 54) (.const (.int .i64 40)) (.tmp 56) (by rfl) rfl rfl rfl SLH.out) hHeld ?_
  try simp only [Act.put, List.setIfInBounds_toArray, List.set_cons_zero, List.set_cons_succ, List.getElem_toArray, List.getElem_cons_zero, List.getElem_cons_succ]
  refine wpAnyH_take (i := 7) (v := ?_) (by rfl) (by kernel_rfl) (by kernel_rfl) (by kernel_rfl) (fun _ _ _ h => h) (Or.inl ⟨by rfl, ?_⟩) hHeld ?_
  rotate_left
  · intro w' hSw
    (try dsimp only at hSw)
    simp only [List.getElem_toArray, List.getElem_cons_zero, List.getElem_cons_succ]
    go_simp
    all_goals (try with_reducible rfl)
  try simp only [Act.put, List.setIfInBounds_toArray, List.set_cons_zero, List.set_cons_succ, List.getElem_toArray, List.getElem_cons_zero, List.getElem_cons_succ]
  refine wpAnyH_take (i := 8) (v := _) (by rfl) (by kernel_rfl) (by kernel_rfl) (by kernel_rfl) (fun _ _ _ h => h) (yieldsIf_load_mid (by rfl) _ _ (by rfl) _ _ rfl (bv kb.d) _ (fun _ h => h.2) Try.underlying23 rfl (sizeAddr BE.out.d)) hHeld ?_
  try simp only [Act.put, List.setIfInBounds_toArray, List.set_cons_zero, List.set_cons_succ, List.getElem_toArray, List.getElem_cons_zero, List.getElem_cons_succ]
  refine wpAnyH_ready (rs := [9, 11]) (by kernel_rfl) (by simp) ?_
  refine AllReadyH.cons (by rfl) (fun K hK => ?_) (AllReadyH.cons (by rfl) (fun K hK => ?_) AllReadyH.nil)
  · simp only [List.getElem_toArray, List.getElem_cons_zero, List.getElem_cons_succ]
    go_simp
    refine (KM.out _).mono ?_
    rintro e w5 ⟨rfl, q5⟩
    have Y5 := VY11.out.keep q5
    have D5 := veil (And.intro (Rd.here (VRD.out.keep (Lay.below Y5)) 6 (by omega) hL6.out VX6.out) (Y5.range mem0 (pc_dst BE.out)))
    have VY5 := veil Y5
    clear q5 Y5
    (try dsimp only)
    refine hK.out _ _ D5.out (fun hHeld => ?_)
    clear hK K
    try simp only [Act.put, List.setIfInBounds_toArray, List.set_cons_zero, List.set_cons_succ, List.getElem_toArray, List.getElem_cons_zero, List.getElem_cons_succ]
    refine wpAnyH_ready (rs := [10, 11]) (by kernel_rfl) (by simp) ?_
    refine AllReadyH.cons (by rfl) (fun K hK => ?_) (AllReadyH.cons (by rfl) (fun K hK => ?_) AllReadyH.nil)
    · simp only [List.getElem_toArray, List.getElem_cons_zero, List.getElem_cons_succ]
      go_simp
      refine (KC.out _ VY5.out.below).mono ?_
      rintro e w6 ⟨A6, n6, c6, rfl, hR, hfar, q6⟩
      have OF : Hid (∀ b, A6 = some b → w.heap.size + 1 + 1 < b.block) := veil (fun b hb => Nat.lt_of_lt_of_le (VY5.out.at mem0).lt (hfar b hb))
      have VR := veil hR
      have VF := veil hfar
      have Y6 := VY5.out.keep q6
      have D6 := veil (And.intro (Rd.here (VRD.out.keep (Lay.below Y6)) 6 (by omega) hL6.out VX6.out) (Y6.range mem0 (pc_dst BE.out)))
      have VY6 := veil Y6
      have VQ6 := veil q6
      clear hR hfar q6 Y6
      (try dsimp only)
      refine hK.out _ _ D6.out (fun hHeld => ?_)
      clear hK K
      try simp only [Act.put, List.setIfInBounds_toArray, List.set_cons_zero, List.set_cons_succ, List.getElem_toArray, List.getElem_cons_zero, List.getElem_cons_succ]
      refine wpAnyH_ready (rs := [11]) (by kernel_rfl) (by simp) ?_
      refine AllReadyH.cons (by rfl) (fun K hK => ?_) AllReadyH.nil
      simp only [List.getElem_toArray, List.getElem_cons_zero, List.getElem_cons_succ]
      go_simp
      have YA := veil (VY6.out.newA zt 54 (g := w6.heap.size) rfl)
      have DA := veil (And.intro (Rd.here (VRD.out.keep (Lay.below YA.out)) 6 (by omega) hL6.out VX6.out) (YA.out.range mem1 (pc_dst BE.out)))
      (try dsimp only)
      refine hK.out _ _ DA.out (fun hHeld => ?_)
      clear hK K
      try simp only [Act.put, List.setIfInBounds_toArray, List.set_cons_zero, List.set_cons_succ, List.getElem_toArray, List.getElem_cons_zero, List.getElem_cons_succ]
      have T12 := told_store (t := T) (v := .slice A6 n6 c6) YA.out mem0 rfl rfl
      have YZ := YA.out.put 0 rfl (tc T (.slice A6 n6 c6))
      simp only [List.set_cons_zero] at YZ
      have VSL := veil (VR.out.keep ((below_new w6 (.cells zt 54)).trans (below_setRow_new w6 _ (tc T (.slice A6 n6 c6)).toArray)))
      have DZ := veil (And.intro (Rd.here (VRD.out.keep (Lay.below YZ)) 6 (by omega) hL6.out VX6.out) (YZ.range mem1 (pc_dst BE.out)))
      replace T12 := veil T12
      have VYZ := veil YZ
      clear YZ
      refine wpAnyH_ready (rs := [12]) (by kernel_rfl) (by simp) ?_
      refine AllReadyH.cons (by rfl) (fun K hK => ?_) AllReadyH.nil
      simp only [List.getElem_toArray, List.getElem_cons_zero, List.getElem_cons_succ]
      refine wp_store_of (.tmp 7) (.tmp 61) rfl rfl rfl T12.out ?_
      (try dsimp only)
      refine hK.out _ _ DZ.out (fun hHeld => ?_)
      clear hK K
      try simp only [Act.put, List.setIfInBounds_toArray, List.set_cons_zero, List.set_cons_succ, List.getElem_toArray, List.getElem_cons_zero, List.getElem_cons_succ]
      refine wpAnyH_done (by kernel_rfl) ?_ _
      refine NoPanic.normal ?_
      clear hHeld
      clear T12 DZ VR VF KM KC SLH D5 D6 DA HW VY11 S11
      generalize (w6.alloc (.cells zt 54)).setRow w6.heap.size (tc T (.slice A6 n6 c6)).toArray = uT at *
      have a2 : uT.cell? ⟨w6.heap.size, 2, none⟩ = some (.bool T.alert) := VYZ.out.look mem0 rfl
      have p33 : uT.cell? ⟨w.heap.size + 1 + 1, 33, none⟩ = some (.bool kb.alert) := VYZ.out.look mem1 (pc_alert BE.out)
      have f33 := VYZ.out.free mem1 33
      have Y1 := VYZ.out.cell 1 rfl 33 (.bool T.alert)
      rw [pc_set_alert BE.out] at Y1
      simp only [List.set_cons_zero, List.set_cons_succ] at Y1
      have E1 : Hid (Hd.Ends ({ kb with alert := T.alert } : Pk)) := veil ⟨BE.out.s, BE.out.d⟩
      have e9 : (uT.setCell ⟨w.heap.size + 1 + 1, 33, none⟩ (.bool T.alert)).cell? ⟨w6.heap.size, 9, none⟩ = some (.int .i64 T.e) := Y1.look mem0 rfl
      have hS1 := VSL.out.setCellFar (g := w.heap.size + 1 + 1) (fun b hb e => absurd (OF.out b hb) (by omega)) 33 (.bool T.alert)
      by_cases h7 : T.e = 7
      · have hG : Hid (gotR zs = ({ kb with alert := T.alert }, [], T.code, T.place, T.e)) := veil (by unfold gotR; rw [VT.out, if_pos h7, VKB.out])
        have b7 : (T.e == 7) = true := by simpa using h7
        have Y2 := Y1.drew
        have S0 := veil (And.intro (Y2.range mem1 (part_all _)) (And.intro (Y2.range mem0 (tc_flt T (.slice A6 n6 c6))) (Y2.look mem0 (show (tc T (.slice A6 n6 c6))[9]? = some (.int .i64 T.e) from rfl))))
        have T14 := veil (pkt_store (k := ({ kb with alert := T.alert } : Pk)) (v := nilV) Y2 mem3 hzl.out E1.out rfl)
        have Y3 := Y2.put 3 rfl (pc ({ kb with alert := T.alert } : Pk) nilV)
        simp only [List.set_cons_zero, List.set_cons_succ] at Y3
        have S1 := veil (And.intro (Y3.range mem1 (part_all _)) (And.intro (Y3.range mem0 (tc_flt T (.slice A6 n6 c6))) (Y3.look mem0 (show (tc T (.slice A6 n6 c6))[9]? = some (.int .i64 T.e) from rfl))))
        have T15 := veil (store_all (P := Try.prog) (ty := 45) (vs := flc T.code T.place) (Y3.at mem2) (by rw [hxl.out]; rfl) (sizeFl _ _) (one_fl _ _))
        have Y4 := Y3.put 2 rfl (flc T.code T.place)
        simp only [List.set_cons_zero, List.set_cons_succ] at Y4
        have S2 := veil (And.intro (Y4.range mem1 (part_all _)) (And.intro (Y4.range mem0 (tc_flt T (.slice A6 n6 c6))) (Y4.look mem0 (show (tc T (.slice A6 n6 c6))[9]? = some (.int .i64 T.e) from rfl))))
        have VY4 := veil Y4
        clear Y1 Y2 Y3 Y4 VYZ VSL hS1 OF VT VKB h7
        go_wp2_with fail
        refine wp_region_noPanic ?_
        refine wp_region_held_drew (S := (fun w' => w'.rangeAt (w.heap.size + 1 + 1) 0 (pc ({ kb with alert := T.alert } : Pk) nilV) ∧ w'.rangeAt w6.heap.size 7 (flc T.code T.place) ∧ w'.cell? ⟨w6.heap.size, 9, none⟩ = some (.int .i64 T.e))) (by kernel_rfl) S0.out (fun hHeld => ?_)
        refine wpAnyH_take (i := 0) (v := _) (by rfl) (by kernel_rfl) (by kernel_rfl) (by kernel_rfl) (fun _ _ _ h => h) (yieldsIf_load_mid (by rfl) _ _ (by rfl) _ _ rfl (pc ({ kb with alert := T.alert } : Pk) nilV) _ (fun _ h => h.1) Try.underlying30 rfl (sizePkt E1.out)) hHeld ?_
        try simp only [Act.put, List.setIfInBounds_toArray, List.set_cons_zero, List.set_cons_succ, List.getElem_toArray, List.getElem_cons_zero, List.getElem_cons_succ]
        refine wpAnyH_take (i := 1) (v := ?_) (by rfl) (by kernel_rfl) (by kernel_rfl) (by kernel_rfl) (fun _ _ _ h => h) (Or.inl ⟨by rfl, ?_⟩) hHeld ?_
        rotate_left
        · intro w' hSw
          (try dsimp only at hSw)
          simp only [List.getElem_toArray, List.getElem_cons_zero, List.getElem_cons_succ]
          go_simp
          all_goals (try with_reducible rfl)
        try simp only [Act.put, List.setIfInBounds_toArray, List.set_cons_zero, List.set_cons_succ, List.getElem_toArray, List.getElem_cons_zero, List.getElem_cons_succ]
        refine wpAnyH_take (i := 2) (v := _) (by rfl) (by kernel_rfl) (by kernel_rfl) (by kernel_rfl) (fun _ _ _ h => h) (yieldsIf_load_mid (by rfl) _ _ (by rfl) _ _ rfl (flc T.code T.place) _ (fun _ h => h.2.1) Try.underlying45 rfl (sizeFl _ _)) hHeld ?_
        try simp only [Act.put, List.setIfInBounds_toArray, List.set_cons_zero, List.set_cons_succ, List.getElem_toArray, List.getElem_cons_zero, List.getElem_cons_succ]
        refine wpAnyH_take (i := 3) (v := ?_) (by rfl) (by kernel_rfl) (by kernel_rfl) (by kernel_rfl) (fun _ _ _ h => h) (Or.inl ⟨by rfl, ?_⟩) hHeld ?_
        rotate_left
        · intro w' hSw
          (try dsimp only at hSw)
          simp only [List.getElem_toArray, List.getElem_cons_zero, List.getElem_cons_succ]
          go_simp
          all_goals (try with_reducible rfl)
        try simp only [Act.put, List.setIfInBounds_toArray, List.set_cons_zero, List.set_cons_succ, List.getElem_toArray, List.getElem_cons_zero, List.getElem_cons_succ]
        refine wpAnyH_take (i := 4) (v := ?_) (by rfl) (by kernel_rfl) (by kernel_rfl) (by kernel_rfl) (fun _ _ _ h => h) (Or.inl ⟨by rfl, ?_⟩) hHeld ?_
        rotate_left
        · intro w' hSw
          (try dsimp only at hSw)
          simp only [List.getElem_toArray, List.getElem_cons_zero, List.getElem_cons_succ]
          go_simp
          all_goals (try with_reducible rfl)
        try simp only [Act.put, List.setIfInBounds_toArray, List.set_cons_zero, List.set_cons_succ, List.getElem_toArray, List.getElem_cons_zero, List.getElem_cons_succ]
        refine wpAnyH_ready (rs := [5]) (by kernel_rfl) (by simp) ?_
        refine AllReadyH.cons (by rfl) (fun K hK => ?_) AllReadyH.nil
        simp only [List.getElem_toArray, List.getElem_cons_zero, List.getElem_cons_succ]
        refine wp_store_of (.tmp 2) (.tmp 68) rfl rfl rfl T14.out ?_
        (try dsimp only)
        refine hK.out _ _ S1.out (fun hHeld => ?_)
        clear hK K
        try simp only [Act.put, List.setIfInBounds_toArray, List.set_cons_zero, List.set_cons_succ, List.getElem_toArray, List.getElem_cons_zero, List.getElem_cons_succ]
        refine wpAnyH_ready (rs := [6]) (by kernel_rfl) (by simp) ?_
        refine AllReadyH.cons (by rfl) (fun K hK => ?_) AllReadyH.nil
        simp only [List.getElem_toArray, List.getElem_cons_zero, List.getElem_cons_succ]
        refine wp_store_of (.tmp 3) (.tmp 70) rfl rfl rfl T15.out ?_
        (try dsimp only)
        refine hK.out _ _ S2.out (fun hHeld => ?_)
        clear hK K
        try simp only [Act.put, List.setIfInBounds_toArray, List.set_cons_zero, List.set_cons_succ, List.getElem_toArray, List.getElem_cons_zero, List.getElem_cons_succ]
        refine wpAnyH_take (i := 7) (v := ?_) (by rfl) (by kernel_rfl) (by kernel_rfl) (by kernel_rfl) (fun _ _ _ h => h) (Or.inl ⟨by rfl, ?_⟩) hHeld ?_
        rotate_left
        · intro w' hSw
          (try dsimp only at hSw)
          simp only [List.getElem_toArray, List.getElem_cons_zero, List.getElem_cons_succ]
          go_simp
          all_goals (try with_reducible rfl)
        try simp only [Act.put, List.setIfInBounds_toArray, List.set_cons_zero, List.set_cons_succ, List.getElem_toArray, List.getElem_cons_zero, List.getElem_cons_succ]
        refine wpAnyH_done (by kernel_rfl) ?_ _
        refine NoPanic.normal ?_
        clear hHeld
        go_wp2_with fail
        refine bodyPost_ret (ret_cct rfl rfl rfl rfl (VY4.out.range mem3 (part_all _)) (VY4.out.range mem2 (part_all _)) Try.underlying30 rfl (sizePkt E1.out) Try.underlying45 rfl (sizeFl _ _)) rfl ?_
        rw [hG.out]
        exact ⟨none, 0, 0, rfl, .inl ⟨rfl, rfl⟩, by simp, VY4.out.below⟩
      by_cases h0 : T.e = 0
      · have hG : Hid (gotR zs = ({ kb with alert := T.alert, frag := T.frag, next := T.last }, T.rest, 0, 0, 0)) := veil (by unfold gotR gotK; rw [VT.out, if_neg h7, if_pos h0, VKB.out])
        have b7 : (T.e == 7) = false := by simpa using h7
        have b0 : (T.e != 0) = false := by simpa using h0
        have L17 := veil (Y1.load mem0 (tc_frag T (.slice A6 n6 c6)) Try.underlying27 rfl sizeFg)
        have T17 := store_part (P := Try.prog) (o := 34) (ty := 27) (vs := fgc T.frag) (Y1.at mem1) (by rw [pc_len E1.out]; show 34 + 4 ≤ 40; omega) (sizeFg) fgc_one'
        rw [pc_put_frag E1.out] at T17
        have Y2 := Y1.put 1 rfl (pc ({ kb with alert := T.alert, frag := T.frag } : Pk) nilV)
        simp only [List.set_cons_zero, List.set_cons_succ] at Y2
        have E2 : Hid (Hd.Ends ({ kb with alert := T.alert, frag := T.frag } : Pk)) := veil ⟨BE.out.s, BE.out.d⟩
        have hS2 := hS1.setRow (g := w.heap.size + 1 + 1) (fun b hb e => absurd (OF.out b hb) (by omega)) (pc ({ kb with alert := T.alert, frag := T.frag } : Pk) nilV).toArray
        obtain ⟨uB, huB⟩ : ∃ u, (uT.setCell ⟨w.heap.size + 1 + 1, 33, none⟩ (.bool T.alert)).setRow (w.heap.size + 1 + 1) (pc ({ kb with alert := T.alert, frag := T.frag } : Pk) nilV).toArray = u := ⟨_, rfl⟩
        rw [huB] at T17 Y2 hS2
        replace T17 := veil T17
        have q0 : uB.cell? ⟨w6.heap.size, 0, none⟩ = some (.int .u8 T.last) := Y2.look mem0 rfl
        have p38 : uB.cell? ⟨w.heap.size + 1 + 1, 38, none⟩ = some (.int .u8 kb.next) := Y2.look mem1 (pc_next E2.out)
        have f38 := Y2.free mem1 38
        have Y3 := Y2.cell 1 rfl 38 (.int .u8 T.last)
        rw [pc_set_next E2.out] at Y3
        simp only [List.set_cons_zero, List.set_cons_succ] at Y3
        have E3 : Hid (Hd.Ends ({ kb with alert := T.alert, frag := T.frag, next := T.last } : Pk)) := veil ⟨BE.out.s, BE.out.d⟩
        have hS3 := hS2.setCellFar (g := w.heap.size + 1 + 1) (fun b hb e => absurd (OF.out b hb) (by omega)) 38 (.int .u8 T.last)
        have q1 : (uB.setCell ⟨w.heap.size + 1 + 1, 38, none⟩ (.int .u8 T.last)).cell? ⟨w6.heap.size, 1, none⟩ = some (.slice A6 n6 c6) := Y3.look mem0 rfl
        have p39 : (uB.setCell ⟨w.heap.size + 1 + 1, 38, none⟩ (.int .u8 T.last)).cell? ⟨w.heap.size + 1 + 1, 39, none⟩ = some nilV := Y3.look mem1 (pc_body E3.out)
        have f39 := Y3.free mem1 39
        have Y4 := Y3.cell 1 rfl 39 (.slice A6 n6 c6)
        rw [pc_set E3.out] at Y4
        simp only [List.set_cons_zero, List.set_cons_succ] at Y4
        have hS4 := hS3.setCellFar (g := w.heap.size + 1 + 1) (fun b hb e => absurd (OF.out b hb) (by omega)) 39 (.slice A6 n6 c6)
        have L20 := veil (pktAt Y4 mem1 E3.out).all
        have T20 := veil (pkt_store (k := ({ kb with alert := T.alert, frag := T.frag, next := T.last } : Pk)) (v := .slice A6 n6 c6) Y4 mem3 hzl.out E3.out rfl)
        have Y5 := Y4.put 3 rfl (pc ({ kb with alert := T.alert, frag := T.frag, next := T.last } : Pk) (.slice A6 n6 c6))
        simp only [List.set_cons_zero, List.set_cons_succ] at Y5
        have hS5 := hS4.setRow (g := w.heap.size) (fun b hb e => absurd (OF.out b hb) (by omega)) (pc ({ kb with alert := T.alert, frag := T.frag, next := T.last } : Pk) (.slice A6 n6 c6)).toArray
        have T21 := veil (store_all (P := Try.prog) (ty := 45) (vs := flc 0 0) (Y5.at mem2) (by rw [hxl.out]; rfl) (sizeFl _ _) (one_fl _ _))
        have Y6 := Y5.put 2 rfl (flc 0 0)
        simp only [List.set_cons_zero, List.set_cons_succ] at Y6
        have hS6 := veil (hS5.setRow (g := w.heap.size + 1) (fun b hb e => absurd (OF.out b hb) (by omega)) (flc 0 0).toArray)
        have OG : Hid (∀ b, A6 = some b → w.heap.size ≤ b.block) := veil (fun b hb => by have := OF.out b hb; omega)
        have VY6' := veil Y6
        have B2 := veil made_fl
        clear Y1 Y2 Y3 Y4 Y5 Y6 VYZ VSL hS1 hS2 hS3 hS4 hS5 huB OF VT VKB h7 h0
        go_upto_region 17 with fail
        go_upto_region 18 with (first | (refine wpList_load_of rfl (.tmp 81) rfl rfl L17.out ?_) | (refine wpList_store_of rfl (.tmp 83) (.tmp 82) rfl rfl rfl T17.out ?_))
        clear L17 T17
        go_upto_region 20 with fail
        go_wp2_with (first
          | (refine wpList_load_of rfl (.tmp 6) rfl rfl L20.out ?_)
          | (refine wpList_build_of rfl 45 #[] rfl #[] (by simp) (B2.out _) ?_)
          | (refine wpList_store_of rfl (.tmp 2) (.tmp 90) rfl rfl rfl T20.out ?_)
          | (refine wpList_store_of rfl (.tmp 3) (.tmp 91) rfl rfl rfl T21.out ?_))
        refine bodyPost_ret (ret_cct rfl rfl rfl rfl (VY6'.out.range mem3 (part_all _)) (VY6'.out.range mem2 (part_all _)) Try.underlying30 rfl (sizePkt E3.out) Try.underlying45 rfl (sizeFl _ _)) rfl ?_
        rw [hG.out]
        exact ⟨A6, n6, c6, rfl, hS6.out, OG.out, VY6'.out.below⟩
      · have hG : Hid (gotR zs = (noPk, [], T.code, T.place, T.e)) := veil (by unfold gotR; rw [VT.out, if_neg h7, if_neg h0])
        have b7 : (T.e == 7) = false := by simpa using h7
        have b0 : (T.e != 0) = true := by simpa using h0
        have Y2 := Y1.drew
        have S0 := veil (And.intro (Y2.range mem0 (tc_flt T (.slice A6 n6 c6))) (Y2.look mem0 (show (tc T (.slice A6 n6 c6))[9]? = some (.int .i64 T.e) from rfl)))
        have T14 := veil (pkt_store (k := noPk) (v := nilV) Y2 mem3 hzl.out noPk_ends rfl)
        have Y3 := Y2.put 3 rfl (pc noPk nilV)
        simp only [List.set_cons_zero, List.set_cons_succ] at Y3
        have S1 := veil (And.intro (Y3.range mem0 (tc_flt T (.slice A6 n6 c6))) (Y3.look mem0 (show (tc T (.slice A6 n6 c6))[9]? = some (.int .i64 T.e) from rfl)))
        have T15 := veil (store_all (P := Try.prog) (ty := 45) (vs := flc T.code T.place) (Y3.at mem2) (by rw [hxl.out]; rfl) (sizeFl _ _) (one_fl _ _))
        have Y4 := Y3.put 2 rfl (flc T.code T.place)
        simp only [List.set_cons_zero, List.set_cons_succ] at Y4
        have S2 := veil (And.intro (Y4.range mem0 (tc_flt T (.slice A6 n6 c6))) (Y4.look mem0 (show (tc T (.slice A6 n6 c6))[9]? = some (.int .i64 T.e) from rfl)))
        have VY4 := veil Y4
        have PM := veil pkt_made
        have NE := veil noPk_ends
        clear Y1 Y2 Y3 Y4 VYZ VSL hS1 OF VT VKB h7 h0
        generalize noPk = kk at *
        go_wp2_with fail
        refine wp_region_noPanic ?_
        refine wp_region_held_drew (S := (fun w' => w'.rangeAt w6.heap.size 7 (flc T.code T.place) ∧ w'.cell? ⟨w6.heap.size, 9, none⟩ = some (.int .i64 T.e))) (by kernel_rfl) S0.out (fun hHeld => ?_)
        refine wpAnyH_take (i := 0) (v := _) (by rfl) (by kernel_rfl) (by kernel_rfl) (by kernel_rfl) (fun _ _ _ h => h) (yieldsIf_build (by rfl) _ _ rfl #[] (by simp) (fun u => PM.out u)) hHeld ?_
        try simp only [Act.put, List.setIfInBounds_toArray, List.set_cons_zero, List.set_cons_succ, List.getElem_toArray, List.getElem_cons_zero, List.getElem_cons_succ]
        refine wpAnyH_take (i := 1) (v := ?_) (by rfl) (by kernel_rfl) (by kernel_rfl) (by kernel_rfl) (fun _ _ _ h => h) (Or.inl ⟨by rfl, ?_⟩) hHeld ?_
        rotate_left
        · intro w' hSw
          (try dsimp only at hSw)
          simp only [List.getElem_toArray, List.getElem_cons_zero, List.getElem_cons_succ]
          go_simp
          all_goals (try with_reducible rfl)
        try simp only [Act.put, List.setIfInBounds_toArray, List.set_cons_zero, List.set_cons_succ, List.getElem_toArray, List.getElem_cons_zero, List.getElem_cons_succ]
        refine wpAnyH_take (i := 2) (v := _) (by rfl) (by kernel_rfl) (by kernel_rfl) (by kernel_rfl) (fun _ _ _ h => h) (yieldsIf_load_mid (by rfl) _ _ (by rfl) _ _ rfl (flc T.code T.place) _ (fun _ h => h.1) Try.underlying45 rfl (sizeFl _ _)) hHeld ?_
        try simp only [Act.put, List.setIfInBounds_toArray, List.set_cons_zero, List.set_cons_succ, List.getElem_toArray, List.getElem_cons_zero, List.getElem_cons_succ]
        refine wpAnyH_take (i := 3) (v := ?_) (by rfl) (by kernel_rfl) (by kernel_rfl) (by kernel_rfl) (fun _ _ _ h => h) (Or.inl ⟨by rfl, ?_⟩) hHeld ?_
        rotate_left
        · intro w' hSw
          (try dsimp only at hSw)
          simp only [List.getElem_toArray, List.getElem_cons_zero, List.getElem_cons_succ]
          go_simp
          all_goals (try with_reducible rfl)
        try simp only [Act.put, List.setIfInBounds_toArray, List.set_cons_zero, List.set_cons_succ, List.getElem_toArray, List.getElem_cons_zero, List.getElem_cons_succ]
        refine wpAnyH_take (i := 4) (v := ?_) (by rfl) (by kernel_rfl) (by kernel_rfl) (by kernel_rfl) (fun _ _ _ h => h) (Or.inl ⟨by rfl, ?_⟩) hHeld ?_
        rotate_left
        · intro w' hSw
          (try dsimp only at hSw)
          simp only [List.getElem_toArray, List.getElem_cons_zero, List.getElem_cons_succ]
          go_simp
          all_goals (try with_reducible rfl)
        try simp only [Act.put, List.setIfInBounds_toArray, List.set_cons_zero, List.set_cons_succ, List.getElem_toArray, List.getElem_cons_zero, List.getElem_cons_succ]
        refine wpAnyH_ready (rs := [5]) (by kernel_rfl) (by simp) ?_
        refine AllReadyH.cons (by rfl) (fun K hK => ?_) AllReadyH.nil
        simp only [List.getElem_toArray, List.getElem_cons_zero, List.getElem_cons_succ]
        refine wp_store_of (.tmp 2) (.tmp 76) rfl rfl rfl T14.out ?_
        (try dsimp only)
        refine hK.out _ _ S1.out (fun hHeld => ?_)
        clear hK K
        try simp only [Act.put, List.setIfInBounds_toArray, List.set_cons_zero, List.set_cons_succ, List.getElem_toArray, List.getElem_cons_zero, List.getElem_cons_succ]
        refine wpAnyH_ready (rs := [6]) (by kernel_rfl) (by simp) ?_
        refine AllReadyH.cons (by rfl) (fun K hK => ?_) AllReadyH.nil
        simp only [List.getElem_toArray, List.getElem_cons_zero, List.getElem_cons_succ]
        refine wp_store_of (.tmp 3) (.tmp 78) rfl rfl rfl T15.out ?_
        (try dsimp only)
        refine hK.out _ _ S2.out (fun hHeld => ?_)
        clear hK K
        try simp only [Act.put, List.setIfInBounds_toArray, List.set_cons_zero, List.set_cons_succ, List.getElem_toArray, List.getElem_cons_zero, List.getElem_cons_succ]
        refine wpAnyH_take (i := 7) (v := ?_) (by rfl) (by kernel_rfl) (by kernel_rfl) (by kernel_rfl) (fun _ _ _ h => h) (Or.inl ⟨by rfl, ?_⟩) hHeld ?_
        rotate_left
        · intro w' hSw
          (try dsimp only at hSw)
          simp only [List.getElem_toArray, List.getElem_cons_zero, List.getElem_cons_succ]
          go_simp
          all_goals (try with_reducible rfl)
        try simp only [Act.put, List.setIfInBounds_toArray, List.set_cons_zero, List.set_cons_succ, List.getElem_toArray, List.getElem_cons_zero, List.getElem_cons_succ]
        refine wpAnyH_done (by kernel_rfl) ?_ _
        refine NoPanic.normal ?_
        clear hHeld
        go_wp2_with fail
        refine bodyPost_ret (ret_cct rfl rfl rfl rfl (VY4.out.range mem3 (part_all _)) (VY4.out.range mem2 (part_all _)) Try.underlying30 rfl (sizePkt NE.out) Try.underlying45 rfl (sizeFl _ _)) rfl ?_
        rw [hG.out]
        exact ⟨none, 0, 0, rfl, .inl ⟨rfl, rfl⟩, by simp, VY4.out.below⟩
    · simp only [List.getElem_toArray, List.getElem_cons_zero, List.getElem_cons_succ]
      go_simp
      have YA := veil (VY5.out.newA zt 54 (g := w5.heap.size) rfl)
      have DA := veil (And.intro (Rd.here (VRD.out.keep (Lay.below YA.out)) 6 (by omega) hL6.out VX6.out) (YA.out.range mem1 (pc_dst BE.out)))
      (try dsimp only)
      refine hK.out _ _ DA.out (fun hHeld => ?_)
      clear hK K
      try simp only [Act.put, List.setIfInBounds_toArray, List.set_cons_zero, List.set_cons_succ, List.getElem_toArray, List.getElem_cons_zero, List.getElem_cons_succ]
      refine wpAnyH_ready (rs := [10]) (by kernel_rfl) (by simp) ?_
      refine AllReadyH.cons (by rfl) (fun K hK => ?_) AllReadyH.nil
      simp only [List.getElem_toArray, List.getElem_cons_zero, List.getElem_cons_succ]
      go_simp
      refine (KC.out _ YA.out.below).mono ?_
      rintro e w6 ⟨A6, n6, c6, rfl, hR, hfar, q6⟩
      have OF : Hid (∀ b, A6 = some b → w.heap.size + 1 + 1 < b.block) := veil (fun b hb => Nat.lt_of_lt_of_le (YA.out.at mem1).lt (hfar b hb))
      have VR := veil hR
      have VF := veil hfar
      have Y6 := YA.out.keep q6
      have D6 := veil (And.intro (Rd.here (VRD.out.keep (Lay.below Y6)) 6 (by omega) hL6.out VX6.out) (Y6.range mem1 (pc_dst BE.out)))
      have VY6 := veil Y6
      have VQ6 := veil q6
      clear hR hfar q6 Y6
      (try dsimp only)
      refine hK.out _ _ D6.out (fun hHeld => ?_)
      clear hK K
      try simp only [Act.put, List.setIfInBounds_toArray, List.set_cons_zero, List.set_cons_succ, List.getElem_toArray, List.getElem_cons_zero, List.getElem_cons_succ]
      have T12 := told_store (t := T) (v := .slice A6 n6 c6) VY6.out mem0 rfl rfl
      have YZ := VY6.out.put 0 rfl (tc T (.slice A6 n6 c6))
      simp only [List.set_cons_zero] at YZ
      have VSL := veil (VR.out.setRow ((fun b hb e => absurd (VF.out b hb) (by rw [e]; exact Nat.not_le.2 (YA.out.at mem0).lt))) (tc T (.slice A6 n6 c6)).toArray)
      have DZ := veil (And.intro (Rd.here (VRD.out.keep (Lay.below YZ)) 6 (by omega) hL6.out VX6.out) (YZ.range mem1 (pc_dst BE.out)))
      replace T12 := veil T12
      have VYZ := veil YZ
      clear YZ
      refine wpAnyH_ready (rs := [12]) (by kernel_rfl) (by simp) ?_
      refine AllReadyH.cons (by rfl) (fun K hK => ?_) AllReadyH.nil
      simp only [List.getElem_toArray, List.getElem_cons_zero, List.getElem_cons_succ]
      refine wp_store_of (.tmp 7) (.tmp 61) rfl rfl rfl T12.out ?_
      (try dsimp only)
      refine hK.out _ _ DZ.out (fun hHeld => ?_)
      clear hK K
      try simp only [Act.put, List.setIfInBounds_toArray, List.set_cons_zero, List.set_cons_succ, List.getElem_toArray, List.getElem_cons_zero, List.getElem_cons_succ]
      refine wpAnyH_done (by kernel_rfl) ?_ _
      refine NoPanic.normal ?_
      clear hHeld
      clear T12 DZ VR VF KM KC SLH D5 D6 DA HW VY11 S11
      generalize w6.setRow w5.heap.size (tc T (.slice A6 n6 c6)).toArray = uT at *
      have a2 : uT.cell? ⟨w5.heap.size, 2, none⟩ = some (.bool T.alert) := VYZ.out.look mem0 rfl
      have p33 : uT.cell? ⟨w.heap.size + 1 + 1, 33, none⟩ = some (.bool kb.alert) := VYZ.out.look mem1 (pc_alert BE.out)
      have f33 := VYZ.out.free mem1 33
      have Y1 := VYZ.out.cell 1 rfl 33 (.bool T.alert)
      rw [pc_set_alert BE.out] at Y1
      simp only [List.set_cons_zero, List.set_cons_succ] at Y1
      have E1 : Hid (Hd.Ends ({ kb with alert := T.alert } : Pk)) := veil ⟨BE.out.s, BE.out.d⟩
      have e9 : (uT.setCell ⟨w.heap.size + 1 + 1, 33, none⟩ (.bool T.alert)).cell? ⟨w5.heap.size, 9, none⟩ = some (.int .i64 T.e) := Y1.look mem0 rfl
      have hS1 := VSL.out.setCellFar (g := w.heap.size + 1 + 1) (fun b hb e => absurd (OF.out b hb) (by omega)) 33 (.bool T.alert)
      by_cases h7 : T.e = 7
      · have hG : Hid (gotR zs = ({ kb with alert := T.alert }, [], T.code, T.place, T.e)) := veil (by unfold gotR; rw [VT.out, if_pos h7, VKB.out])
        have b7 : (T.e == 7) = true := by simpa using h7
        have Y2 := Y1.drew
        have S0 := veil (And.intro (Y2.range mem1 (part_all _)) (And.intro (Y2.range mem0 (tc_flt T (.slice A6 n6 c6))) (Y2.look mem0 (show (tc T (.slice A6 n6 c6))[9]? = some (.int .i64 T.e) from rfl))))
        have T14 := veil (pkt_store (k := ({ kb with alert := T.alert } : Pk)) (v := nilV) Y2 mem3 hzl.out E1.out rfl)
        have Y3 := Y2.put 3 rfl (pc ({ kb with alert := T.alert } : Pk) nilV)
        simp only [List.set_cons_zero, List.set_cons_succ] at Y3
        have S1 := veil (And.intro (Y3.range mem1 (part_all _)) (And.intro (Y3.range mem0 (tc_flt T (.slice A6 n6 c6))) (Y3.look mem0 (show (tc T (.slice A6 n6 c6))[9]? = some (.int .i64 T.e) from rfl))))
        have T15 := veil (store_all (P := Try.prog) (ty := 45) (vs := flc T.code T.place) (Y3.at mem2) (by rw [hxl.out]; rfl) (sizeFl _ _) (one_fl _ _))
        have Y4 := Y3.put 2 rfl (flc T.code T.place)
        simp only [List.set_cons_zero, List.set_cons_succ] at Y4
        have S2 := veil (And.intro (Y4.range mem1 (part_all _)) (And.intro (Y4.range mem0 (tc_flt T (.slice A6 n6 c6))) (Y4.look mem0 (show (tc T (.slice A6 n6 c6))[9]? = some (.int .i64 T.e) from rfl))))
        have VY4 := veil Y4
        clear Y1 Y2 Y3 Y4 VYZ VSL hS1 OF VT VKB h7
        go_wp2_with fail
        refine wp_region_noPanic ?_
        refine wp_region_held_drew (S := (fun w' => w'.rangeAt (w.heap.size + 1 + 1) 0 (pc ({ kb with alert := T.alert } : Pk) nilV) ∧ w'.rangeAt w5.heap.size 7 (flc T.code T.place) ∧ w'.cell? ⟨w5.heap.size, 9, none⟩ = some (.int .i64 T.e))) (by kernel_rfl) S0.out (fun hHeld => ?_)
        refine wpAnyH_take (i := 0) (v := _) (by rfl) (by kernel_rfl) (by kernel_rfl) (by kernel_rfl) (fun _ _ _ h => h) (yieldsIf_load_mid (by rfl) _ _ (by rfl) _ _ rfl (pc ({ kb with alert := T.alert } : Pk) nilV) _ (fun _ h => h.1) Try.underlying30 rfl (sizePkt E1.out)) hHeld ?_
        try simp only [Act.put, List.setIfInBounds_toArray, List.set_cons_zero, List.set_cons_succ, List.getElem_toArray, List.getElem_cons_zero, List.getElem_cons_succ]
        refine wpAnyH_take (i := 1) (v := ?_) (by rfl) (by kernel_rfl) (by kernel_rfl) (by kernel_rfl) (fun _ _ _ h => h) (Or.inl ⟨by rfl, ?_⟩) hHeld ?_
        rotate_left
        · intro w' hSw
          (try dsimp only at hSw)
          simp only [List.getElem_toArray, List.getElem_cons_zero, List.getElem_cons_succ]
          go_simp
          all_goals (try with_reducible rfl)
        try simp only [Act.put, List.setIfInBounds_toArray, List.set_cons_zero, List.set_cons_succ, List.getElem_toArray, List.getElem_cons_zero, List.getElem_cons_succ]
        refine wpAnyH_take (i := 2) (v := _) (by rfl) (by kernel_rfl) (by kernel_rfl) (by kernel_rfl) (fun _ _ _ h => h) (yieldsIf_load_mid (by rfl) _ _ (by rfl) _ _ rfl (flc T.code T.place) _ (fun _ h => h.2.1) Try.underlying45 rfl (sizeFl _ _)) hHeld ?_
        try simp only [Act.put, List.setIfInBounds_toArray, List.set_cons_zero, List.set_cons_succ, List.getElem_toArray, List.getElem_cons_zero, List.getElem_cons_succ]
        refine wpAnyH_take (i := 3) (v := ?_) (by rfl) (by kernel_rfl) (by kernel_rfl) (by kernel_rfl) (fun _ _ _ h => h) (Or.inl ⟨by rfl, ?_⟩) hHeld ?_
        rotate_left
        · intro w' hSw
          (try dsimp only at hSw)
          simp only [List.getElem_toArray, List.getElem_cons_zero, List.getElem_cons_succ]
          go_simp
          all_goals (try with_reducible rfl)
        try simp only [Act.put, List.setIfInBounds_toArray, List.set_cons_zero, List.set_cons_succ, List.getElem_toArray, List.getElem_cons_zero, List.getElem_cons_succ]
        refine wpAnyH_take (i := 4) (v := ?_) (by rfl) (by kernel_rfl) (by kernel_rfl) (by kernel_rfl) (fun _ _ _ h => h) (Or.inl ⟨by rfl, ?_⟩) hHeld ?_
        rotate_left
        · intro w' hSw
          (try dsimp only at hSw)
          simp only [List.getElem_toArray, List.getElem_cons_zero, List.getElem_cons_succ]
          go_simp
          all_goals (try with_reducible rfl)
        try simp only [Act.put, List.setIfInBounds_toArray, List.set_cons_zero, List.set_cons_succ, List.getElem_toArray, List.getElem_cons_zero, List.getElem_cons_succ]
        refine wpAnyH_ready (rs := [5]) (by kernel_rfl) (by simp) ?_
        refine AllReadyH.cons (by rfl) (fun K hK => ?_) AllReadyH.nil
        simp only [List.getElem_toArray, List.getElem_cons_zero, List.getElem_cons_succ]
        refine wp_store_of (.tmp 2) (.tmp 68) rfl rfl rfl T14.out ?_
        (try dsimp only)
        refine hK.out _ _ S1.out (fun hHeld => ?_)
        clear hK K
        try simp only [Act.put, List.setIfInBounds_toArray, List.set_cons_zero, List.set_cons_succ, List.getElem_toArray, List.getElem_cons_zero, List.getElem_cons_succ]
        refine wpAnyH_ready (rs := [6]) (by kernel_rfl) (by simp) ?_
        refine AllReadyH.cons (by rfl) (fun K hK => ?_) AllReadyH.nil
        simp only [List.getElem_toArray, List.getElem_cons_zero, List.getElem_cons_succ]
        refine wp_store_of (.tmp 3) (.tmp 70) rfl rfl rfl T15.out ?_
        (try dsimp only)
        refine hK.out _ _ S2.out (fun hHeld => ?_)
        clear hK K
        try simp only [Act.put, List.setIfInBounds_toArray, List.set_cons_zero, List.set_cons_succ, List.getElem_toArray, List.getElem_cons_zero, List.getElem_cons_succ]
        refine wpAnyH_take (i := 7) (v := ?_) (by rfl) (by kernel_rfl) (by kernel_rfl) (by kernel_rfl) (fun _ _ _ h => h) (Or.inl ⟨by rfl, ?_⟩) hHeld ?_
        rotate_left
        · intro w' hSw
          (try dsimp only at hSw)
          simp only [List.getElem_toArray, List.getElem_cons_zero, List.getElem_cons_succ]
          go_simp
          all_goals (try with_reducible rfl)
        try simp only [Act.put, List.setIfInBounds_toArray, List.set_cons_zero, List.set_cons_succ, List.getElem_toArray, List.getElem_cons_zero, List.getElem_cons_succ]
        refine wpAnyH_done (by kernel_rfl) ?_ _
        refine NoPanic.normal ?_
        clear hHeld
        go_wp2_with fail
        refine bodyPost_ret (ret_cct rfl rfl rfl rfl (VY4.out.range mem3 (part_all _)) (VY4.out.range mem2 (part_all _)) Try.underlying30 rfl (sizePkt E1.out) Try.underlying45 rfl (sizeFl _ _)) rfl ?_
        rw [hG.out]
        exact ⟨none, 0, 0, rfl, .inl ⟨rfl, rfl⟩, by simp, VY4.out.below⟩
      by_cases h0 : T.e = 0
      · have hG : Hid (gotR zs = ({ kb with alert := T.alert, frag := T.frag, next := T.last }, T.rest, 0, 0, 0)) := veil (by unfold gotR gotK; rw [VT.out, if_neg h7, if_pos h0, VKB.out])
        have b7 : (T.e == 7) = false := by simpa using h7
        have b0 : (T.e != 0) = false := by simpa using h0
        have L17 := veil (Y1.load mem0 (tc_frag T (.slice A6 n6 c6)) Try.underlying27 rfl sizeFg)
        have T17 := store_part (P := Try.prog) (o := 34) (ty := 27) (vs := fgc T.frag) (Y1.at mem1) (by rw [pc_len E1.out]; show 34 + 4 ≤ 40; omega) (sizeFg) fgc_one'
        rw [pc_put_frag E1.out] at T17
        have Y2 := Y1.put 1 rfl (pc ({ kb with alert := T.alert, frag := T.frag } : Pk) nilV)
        simp only [List.set_cons_zero, List.set_cons_succ] at Y2
        have E2 : Hid (Hd.Ends ({ kb with alert := T.alert, frag := T.frag } : Pk)) := veil ⟨BE.out.s, BE.out.d⟩
        have hS2 := hS1.setRow (g := w.heap.size + 1 + 1) (fun b hb e => absurd (OF.out b hb) (by omega)) (pc ({ kb with alert := T.alert, frag := T.frag } : Pk) nilV).toArray
        obtain ⟨uB, huB⟩ : ∃ u, (uT.setCell ⟨w.heap.size + 1 + 1, 33, none⟩ (.bool T.alert)).setRow (w.heap.size + 1 + 1) (pc ({ kb with alert := T.alert, frag := T.frag } : Pk) nilV).toArray = u := ⟨_, rfl⟩
        rw [huB] at T17 Y2 hS2
        replace T17 := veil T17
        have q0 : uB.cell? ⟨w5.heap.size, 0, none⟩ = some (.int .u8 T.last) := Y2.look mem0 rfl
        have p38 : uB.cell? ⟨w.heap.size + 1 + 1, 38, none⟩ = some (.int .u8 kb.next) := Y2.look mem1 (pc_next E2.out)
        have f38 := Y2.free mem1 38
        have Y3 := Y2.cell 1 rfl 38 (.int .u8 T.last)
        rw [pc_set_next E2.out] at Y3
        simp only [List.set_cons_zero, List.set_cons_succ] at Y3
        have E3 : Hid (Hd.Ends ({ kb with alert := T.alert, frag := T.frag, next := T.last } : Pk)) := veil ⟨BE.out.s, BE.out.d⟩
        have hS3 := hS2.setCellFar (g := w.heap.size + 1 + 1) (fun b hb e => absurd (OF.out b hb) (by omega)) 38 (.int .u8 T.last)
        have q1 : (uB.setCell ⟨w.heap.size + 1 + 1, 38, none⟩ (.int .u8 T.last)).cell? ⟨w5.heap.size, 1, none⟩ = some (.slice A6 n6 c6) := Y3.look mem0 rfl
        have p39 : (uB.setCell ⟨w.heap.size + 1 + 1, 38, none⟩ (.int .u8 T.last)).cell? ⟨w.heap.size + 1 + 1, 39, none⟩ = some nilV := Y3.look mem1 (pc_body E3.out)
        have f39 := Y3.free mem1 39
        have Y4 := Y3.cell 1 rfl 39 (.slice A6 n6 c6)
        rw [pc_set E3.out] at Y4
        simp only [List.set_cons_zero, List.set_cons_succ] at Y4
        have hS4 := hS3.setCellFar (g := w.heap.size + 1 + 1) (fun b hb e => absurd (OF.out b hb) (by omega)) 39 (.slice A6 n6 c6)
        have L20 := veil (pktAt Y4 mem1 E3.out).all
        have T20 := veil (pkt_store (k := ({ kb with alert := T.alert, frag := T.frag, next := T.last } : Pk)) (v := .slice A6 n6 c6) Y4 mem3 hzl.out E3.out rfl)
        have Y5 := Y4.put 3 rfl (pc ({ kb with alert := T.alert, frag := T.frag, next := T.last } : Pk) (.slice A6 n6 c6))
        simp only [List.set_cons_zero, List.set_cons_succ] at Y5
        have hS5 := hS4.setRow (g := w.heap.size) (fun b hb e => absurd (OF.out b hb) (by omega)) (pc ({ kb with alert := T.alert, frag := T.frag, next := T.last } : Pk) (.slice A6 n6 c6)).toArray
        have T21 := veil (store_all (P := Try.prog) (ty := 45) (vs := flc 0 0) (Y5.at mem2) (by rw [hxl.out]; rfl) (sizeFl _ _) (one_fl _ _))
        have Y6 := Y5.put 2 rfl (flc 0 0)
        simp only [List.set_cons_zero, List.set_cons_succ] at Y6
        have hS6 := veil (hS5.setRow (g := w.heap.size + 1) (fun b hb e => absurd (OF.out b hb) (by omega)) (flc 0 0).toArray)
        have OG : Hid (∀ b, A6 = some b → w.heap.size ≤ b.block) := veil (fun b hb => by have := OF.out b hb; omega)
        have VY6' := veil Y6
        have B2 := veil made_fl
        clear Y1 Y2 Y3 Y4 Y5 Y6 VYZ VSL hS1 hS2 hS3 hS4 hS5 huB OF VT VKB h7 h0
        go_upto_region 17 with fail
        go_upto_region 18 with (first | (refine wpList_load_of rfl (.tmp 81) rfl rfl L17.out ?_) | (refine wpList_store_of rfl (.tmp 83) (.tmp 82) rfl rfl rfl T17.out ?_))
        clear L17 T17
        go_upto_region 20 with fail
        go_wp2_with (first
          | (refine wpList_load_of rfl (.tmp 6) rfl rfl L20.out ?_)
          | (refine wpList_build_of rfl 45 #[] rfl #[] (by simp) (B2.out _) ?_)
          | (refine wpList_store_of rfl (.tmp 2) (.tmp 90) rfl rfl rfl T20.out ?_)
          | (refine wpList_store_of rfl (.tmp 3) (.tmp 91) rfl rfl rfl T21.out ?_))
        refine bodyPost_ret (ret_cct rfl rfl rfl rfl (VY6'.out.range mem3 (part_all _)) (VY6'.out.range mem2 (part_all _)) Try.underlying30 rfl (sizePkt E3.out) Try.underlying45 rfl (sizeFl _ _)) rfl ?_
        rw [hG.out]
        exact ⟨A6, n6, c6, rfl, hS6.out, OG.out, VY6'.out.below⟩
      · have hG : Hid (gotR zs = (noPk, [], T.code, T.place, T.e)) := veil (by unfold gotR; rw [VT.out, if_neg h7, if_neg h0])
        have b7 : (T.e == 7) = false := by simpa using h7
        have b0 : (T.e != 0) = true := by simpa using h0
        have Y2 := Y1.drew
        have S0 := veil (And.intro (Y2.range mem0 (tc_flt T (.slice A6 n6 c6))) (Y2.look mem0 (show (tc T (.slice A6 n6 c6))[9]? = some (.int .i64 T.e) from rfl)))
        have T14 := veil (pkt_store (k := noPk) (v := nilV) Y2 mem3 hzl.out noPk_ends rfl)
        have Y3 := Y2.put 3 rfl (pc noPk nilV)
        simp only [List.set_cons_zero, List.set_cons_succ] at Y3
        have S1 := veil (And.intro (Y3.range mem0 (tc_flt T (.slice A6 n6 c6))) (Y3.look mem0 (show (tc T (.slice A6 n6 c6))[9]? = some (.int .i64 T.e) from rfl)))
        have T15 := veil (store_all (P := Try.prog) (ty := 45) (vs := flc T.code T.place) (Y3.at mem2) (by rw [hxl.out]; rfl) (sizeFl _ _) (one_fl _ _))
        have Y4 := Y3.put 2 rfl (flc T.code T.place)
        simp only [List.set_cons_zero, List.set_cons_succ] at Y4
        have S2 := veil (And.intro (Y4.range mem0 (tc_flt T (.slice A6 n6 c6))) (Y4.look mem0 (show (tc T (.slice A6 n6 c6))[9]? = some (.int .i64 T.e) from rfl)))
        have VY4 := veil Y4
        have PM := veil pkt_made
        have NE := veil noPk_ends
        clear Y1 Y2 Y3 Y4 VYZ VSL hS1 OF VT VKB h7 h0
        generalize noPk = kk at *
        go_wp2_with fail
        refine wp_region_noPanic ?_
        refine wp_region_held_drew (S := (fun w' => w'.rangeAt w5.heap.size 7 (flc T.code T.place) ∧ w'.cell? ⟨w5.heap.size, 9, none⟩ = some (.int .i64 T.e))) (by kernel_rfl) S0.out (fun hHeld => ?_)
        refine wpAnyH_take (i := 0) (v := _) (by rfl) (by kernel_rfl) (by kernel_rfl) (by kernel_rfl) (fun _ _ _ h => h) (yieldsIf_build (by rfl) _ _ rfl #[] (by simp) (fun u => PM.out u)) hHeld ?_
        try simp only [Act.put, List.setIfInBounds_toArray, List.set_cons_zero, List.set_cons_succ, List.getElem_toArray, List.getElem_cons_zero, List.getElem_cons_succ]
        refine wpAnyH_take (i := 1) (v := ?_) (by rfl) (by kernel_rfl) (by kernel_rfl) (by kernel_rfl) (fun _ _ _ h => h) (Or.inl ⟨by rfl, ?_⟩) hHeld ?_
        rotate_left
        · intro w' hSw
          (try dsimp only at hSw)
          simp only [List.getElem_toArray, List.getElem_cons_zero, List.getElem_cons_succ]
          go_simp
          all_goals (try with_reducible rfl)
        try simp only [Act.put, List.setIfInBounds_toArray, List.set_cons_zero, List.set_cons_succ, List.getElem_toArray, List.getElem_cons_zero, List.getElem_cons_succ]
        refine wpAnyH_take (i := 2) (v := _) (by rfl) (by kernel_rfl) (by kernel_rfl) (by kernel_rfl) (fun _ _ _ h => h) (yieldsIf_load_mid (by rfl) _ _ (by rfl) _ _ rfl (flc T.code T.place) _ (fun _ h => h.1) Try.underlying45 rfl (sizeFl _ _)) hHeld ?_
        try simp only [Act.put, List.setIfInBounds_toArray, List.set_cons_zero, List.set_cons_succ, List.getElem_toArray, List.getElem_cons_zero, List.getElem_cons_succ]
        refine wpAnyH_take (i := 3) (v := ?_) (by rfl) (by kernel_rfl) (by kernel_rfl) (by kernel_rfl) (fun _ _ _ h => h) (Or.inl ⟨by rfl, ?_⟩) hHeld ?_
        rotate_left
        · intro w' hSw
          (try dsimp only at hSw)
          simp only [List.getElem_toArray, List.getElem_cons_zero, List.getElem_cons_succ]
          go_simp
          all_goals (try with_reducible rfl)
        try simp only [Act.put, List.setIfInBounds_toArray, List.set_cons_zero, List.set_cons_succ, List.getElem_toArray, List.getElem_cons_zero, List.getElem_cons_succ]
        refine wpAnyH_take (i := 4) (v := ?_) (by rfl) (by kernel_rfl) (by kernel_rfl) (by kernel_rfl) (fun _ _ _ h => h) (Or.inl ⟨by rfl, ?_⟩) hHeld ?_
        rotate_left
        · intro w' hSw
          (try dsimp only at hSw)
          simp only [List.getElem_toArray, List.getElem_cons_zero, List.getElem_cons_succ]
          go_simp
          all_goals (try with_reducible rfl)
        try simp only [Act.put, List.setIfInBounds_toArray, List.set_cons_zero, List.set_cons_succ, List.getElem_toArray, List.getElem_cons_zero, List.getElem_cons_succ]
        refine wpAnyH_ready (rs := [5]) (by kernel_rfl) (by simp) ?_
        refine AllReadyH.cons (by rfl) (fun K hK => ?_) AllReadyH.nil
        simp only [List.getElem_toArray, List.getElem_cons_zero, List.getElem_cons_succ]
        refine wp_store_of (.tmp 2) (.tmp 76) rfl rfl rfl T14.out ?_
        (try dsimp only)
        refine hK.out _ _ S1.out (fun hHeld => ?_)
        clear hK K
        try simp only [Act.put, List.setIfInBounds_toArray, List.set_cons_zero, List.set_cons_succ, List.getElem_toArray, List.getElem_cons_zero, List.getElem_cons_succ]
        refine wpAnyH_ready (rs := [6]) (by kernel_rfl) (by simp) ?_
        refine AllReadyH.cons (by rfl) (fun K hK => ?_) AllReadyH.nil
        simp only [List.getElem_toArray, List.getElem_cons_zero, List.getElem_cons_succ]
        refine wp_store_of (.tmp 3) (.tmp 78) rfl rfl rfl T15.out ?_
        (try dsimp only)
        refine hK.out _ _ S2.out (fun hHeld => ?_)
        clear hK K
        try simp only [Act.put, List.setIfInBounds_toArray, List.set_cons_zero, List.set_cons_succ, List.getElem_toArray, List.getElem_cons_zero, List.getElem_cons_succ]
        refine wpAnyH_take (i := 7) (v := ?_) (by rfl) (by kernel_rfl) (by kernel_rfl) (by kernel_rfl) (fun _ _ _ h => h) (Or.inl ⟨by rfl, ?_⟩) hHeld ?_
        rotate_left
        · intro w' hSw
          (try dsimp only at hSw)
          simp only [List.getElem_toArray, List.getElem_cons_zero, List.getElem_cons_succ]
          go_simp
          all_goals (try with_reducible rfl)
        try simp only [Act.put, List.setIfInBounds_toArray, List.set_cons_zero, List.set_cons_succ, List.getElem_toArray, List.getElem_cons_zero, List.getElem_cons_succ]
        refine wpAnyH_done (by kernel_rfl) ?_ _
        refine NoPanic.normal ?_
        clear hHeld
        go_wp2_with fail
        refine bodyPost_ret (ret_cct rfl rfl rfl rfl (VY4.out.range mem3 (part_all _)) (VY4.out.range mem2 (part_all _)) Try.underlying30 rfl (sizePkt NE.out) Try.underlying45 rfl (sizeFl _ _)) rfl ?_
        rw [hG.out]
        exact ⟨none, 0, 0, rfl, .inl ⟨rfl, rfl⟩, by simp, VY4.out.below⟩
  · simp only [List.getElem_toArray, List.getElem_cons_zero, List.getElem_cons_succ]
    go_simp
    have YA := veil (VY11.out.newA zt 54 (g := u3.heap.size) rfl)
    have DA := veil (And.intro (Rd.here (VRD.out.keep (Lay.below YA.out)) 6 (by omega) hL6.out VX6.out) (YA.out.range mem1 (pc_dst BE.out)))
    (try dsimp only)
    refine hK.out _ _ DA.out (fun hHeld => ?_)
    clear hK K
    try simp only [Act.put, List.setIfInBounds_toArray, List.set_cons_zero, List.set_cons_succ, List.getElem_toArray, List.getElem_cons_zero, List.getElem_cons_succ]
    refine wpAnyH_ready (rs := [9]) (by kernel_rfl) (by simp) ?_
    refine AllReadyH.cons (by rfl) (fun K hK => ?_) AllReadyH.nil
    simp only [List.getElem_toArray, List.getElem_cons_zero, List.getElem_cons_succ]
    go_simp
    refine (KM.out _).mono ?_
    rintro e w5 ⟨rfl, q5⟩
    have Y5 := YA.out.keep q5
    have D5 := veil (And.intro (Rd.here (VRD.out.keep (Lay.below Y5)) 6 (by omega) hL6.out VX6.out) (Y5.range mem1 (pc_dst BE.out)))
    have VY5 := veil Y5
    clear q5 Y5
    (try dsimp only)
    refine hK.out _ _ D5.out (fun hHeld => ?_)
    clear hK K
    try simp only [Act.put, List.setIfInBounds_toArray, List.set_cons_zero, List.set_cons_succ, List.getElem_toArray, List.getElem_cons_zero, List.getElem_cons_succ]
    refine wpAnyH_ready (rs := [10]) (by kernel_rfl) (by simp) ?_
    refine AllReadyH.cons (by rfl) (fun K hK => ?_) AllReadyH.nil
    simp only [List.getElem_toArray, List.getElem_cons_zero, List.getElem_cons_succ]
    go_simp
    refine (KC.out _ VY5.out.below).mono ?_
    rintro e w6 ⟨A6, n6, c6, rfl, hR, hfar, q6⟩
    have OF : Hid (∀ b, A6 = some b → w.heap.size + 1 + 1 < b.block) := veil (fun b hb => Nat.lt_of_lt_of_le (VY5.out.at mem1).lt (hfar b hb))
    have VR := veil hR
    have VF := veil hfar
    have Y6 := VY5.out.keep q6
    have D6 := veil (And.intro (Rd.here (VRD.out.keep (Lay.below Y6)) 6 (by omega) hL6.out VX6.out) (Y6.range mem1 (pc_dst BE.out)))
    have VY6 := veil Y6
    have VQ6 := veil q6
    clear hR hfar q6 Y6
    (try dsimp only)
    refine hK.out _ _ D6.out (fun hHeld => ?_)
    clear hK K
    try simp only [Act.put, List.setIfInBounds_toArray, List.set_cons_zero, List.set_cons_succ, List.getElem_toArray, List.getElem_cons_zero, List.getElem_cons_succ]
    have T12 := told_store (t := T) (v := .slice A6 n6 c6) VY6.out mem0 rfl rfl
    have YZ := VY6.out.put 0 rfl (tc T (.slice A6 n6 c6))
    simp only [List.set_cons_zero] at YZ
    have VSL := veil (VR.out.setRow ((fun b hb e => absurd (VF.out b hb) (by rw [e]; exact Nat.not_le.2 (VY5.out.at mem0).lt))) (tc T (.slice A6 n6 c6)).toArray)
    have DZ := veil (And.intro (Rd.here (VRD.out.keep (Lay.below YZ)) 6 (by omega) hL6.out VX6.out) (YZ.range mem1 (pc_dst BE.out)))
    replace T12 := veil T12
    have VYZ := veil YZ
    clear YZ
    refine wpAnyH_ready (rs := [12]) (by kernel_rfl) (by simp) ?_
    refine AllReadyH.cons (by rfl) (fun K hK => ?_) AllReadyH.nil
    simp only [List.getElem_toArray, List.getElem_cons_zero, List.getElem_cons_succ]
    refine wp_store_of (.tmp 7) (.tmp 61) rfl rfl rfl T12.out ?_
    (try dsimp only)
    refine hK.out _ _ DZ.out (fun hHeld => ?_)
    clear hK K
    try simp only [Act.put, List.setIfInBounds_toArray, List.set_cons_zero, List.set_cons_succ, List.getElem_toArray, List.getElem_cons_zero, List.getElem_cons_succ]
    refine wpAnyH_done (by kernel_rfl) ?_ _
    refine NoPanic.normal ?_
    clear hHeld
    clear T12 DZ VR VF KM KC SLH D5 D6 DA HW VY11 S11
    generalize w6.setRow u3.heap.size (tc T (.slice A6 n6 c6)).toArray = uT at *
    have a2 : uT.cell? ⟨u3.heap.size, 2, none⟩ = some (.bool T.alert) := VYZ.out.look mem0 rfl
    have p33 : uT.cell? ⟨w.heap.size + 1 + 1, 33, none⟩ = some (.bool kb.alert) := VYZ.out.look mem1 (pc_alert BE.out)
    have f33 := VYZ.out.free mem1 33
    have Y1 := VYZ.out.cell 1 rfl 33 (.bool T.alert)
    rw [pc_set_alert BE.out] at Y1
    simp only [List.set_cons_zero, List.set_cons_succ] at Y1
    have E1 : Hid (Hd.Ends ({ kb with alert := T.alert } : Pk)) := veil ⟨BE.out.s, BE.out.d⟩
    have e9 : (uT.setCell ⟨w.heap.size + 1 + 1, 33, none⟩ (.bool T.alert)).cell? ⟨u3.heap.size, 9, none⟩ = some (.int .i64 T.e) := Y1.look mem0 rfl
    have hS1 := VSL.out.setCellFar (g := w.heap.size + 1 + 1) (fun b hb e => absurd (OF.out b hb) (by omega)) 33 (.bool T.alert)
    by_cases h7 : T.e = 7
    · have hG : Hid (gotR zs = ({ kb with alert := T.alert }, [], T.code, T.place, T.e)) := veil (by unfold gotR; rw [VT.out, if_pos h7, VKB.out])
      have b7 : (T.e == 7) = true := by simpa using h7
      have Y2 := Y1.drew
      have S0 := veil (And.intro (Y2.range mem1 (part_all _)) (And.intro (Y2.range mem0 (tc_flt T (.slice A6 n6 c6))) (Y2.look mem0 (show (tc T (.slice A6 n6 c6))[9]? = some (.int .i64 T.e) from rfl))))
      have T14 := veil (pkt_store (k := ({ kb with alert := T.alert } : Pk)) (v := nilV) Y2 mem3 hzl.out E1.out rfl)
      have Y3 := Y2.put 3 rfl (pc ({ kb with alert := T.alert } : Pk) nilV)
      simp only [List.set_cons_zero, List.set_cons_succ] at Y3
      have S1 := veil (And.intro (Y3.range mem1 (part_all _)) (And.intro (Y3.range mem0 (tc_flt T (.slice A6 n6 c6))) (Y3.look mem0 (show (tc T (.slice A6 n6 c6))[9]? = some (.int .i64 T.e) from rfl))))
      have T15 := veil (store_all (P := Try.prog) (ty := 45) (vs := flc T.code T.place) (Y3.at mem2) (by rw [hxl.out]; rfl) (sizeFl _ _) (one_fl _ _))
      have Y4 := Y3.put 2 rfl (flc T.code T.place)
      simp only [List.set_cons_zero, List.set_cons_succ] at Y4
      have S2 := veil (And.intro (Y4.range mem1 (part_all _)) (And.intro (Y4.range mem0 (tc_flt T (.slice A6 n6 c6))) (Y4.look mem0 (show (tc T (.slice A6 n6 c6))[9]? = some (.int .i64 T.e) from rfl))))
      have VY4 := veil Y4
      clear Y1 Y2 Y3 Y4 VYZ VSL hS1 OF VT VKB h7
      go_wp2_with fail
      refine wp_region_noPanic ?_
      refine wp_region_held_drew (S := (fun w' => w'.rangeAt (w.heap.size + 1 + 1) 0 (pc ({ kb with alert := T.alert } : Pk) nilV) ∧ w'.rangeAt u3.heap.size 7 (flc T.code T.place) ∧ w'.cell? ⟨u3.heap.size, 9, none⟩ = some (.int .i64 T.e))) (by kernel_rfl) S0.out (fun hHeld => ?_)
      refine wpAnyH_take (i := 0) (v := _) (by rfl) (by kernel_rfl) (by kernel_rfl) (by kernel_rfl) (fun _ _ _ h => h) (yieldsIf_load_mid (by rfl) _ _ (by rfl) _ _ rfl (pc ({ kb with alert := T.alert } : Pk) nilV) _ (fun _ h => h.1) Try.underlying30 rfl (sizePkt E1.out)) hHeld ?_
      try simp only [Act.put, List.setIfInBounds_toArray, List.set_cons_zero, List.set_cons_succ, List.getElem_toArray, List.getElem_cons_zero, List.getElem_cons_succ]
      refine wpAnyH_take (i := 1) (v := ?_) (by rfl) (by kernel_rfl) (by kernel_rfl) (by kernel_rfl) (fun _ _ _ h => h) (Or.inl ⟨by rfl, ?_⟩) hHeld ?_
      rotate_left
      · intro w' hSw
        (try dsimp only at hSw)
        simp only [List.getElem_toArray, List.getElem_cons_zero, List.getElem_cons_succ]
        go_simp
        all_goals (try with_reducible rfl)
      try simp only [Act.put, List.setIfInBounds_toArray, List.set_cons_zero, List.set_cons_succ, List.getElem_toArray, List.getElem_cons_zero, List.getElem_cons_succ]
      refine wpAnyH_take (i := 2) (v := _) (by rfl) (by kernel_rfl) (by kernel_rfl) (by kernel_rfl) (fun _ _ _ h => h) (yieldsIf_load_mid (by rfl) _ _ (by rfl) _ _ rfl (flc T.code T.place) _ (fun _ h => h.2.1) Try.underlying45 rfl (sizeFl _ _)) hHeld ?_
      try simp only [Act.put, List.setIfInBounds_toArray, List.set_cons_zero, List.set_cons_succ, List.getElem_toArray, List.getElem_cons_zero, List.getElem_cons_succ]
      refine wpAnyH_take (i := 3) (v := ?_) (by rfl) (by kernel_rfl) (by kernel_rfl) (by kernel_rfl) (fun _ _ _ h => h) (Or.inl ⟨by rfl, ?_⟩) hHeld ?_
      rotate_left
      · intro w' hSw
        (try dsimp only at hSw)
        simp only [List.getElem_toArray, List.getElem_cons_zero, List.getElem_cons_succ]
        go_simp
        all_goals (try with_reducible rfl)
      try simp only [Act.put, List.setIfInBounds_toArray, List.set_cons_zero, List.set_cons_succ, List.getElem_toArray, List.getElem_cons_zero, List.getElem_cons_succ]
      refine wpAnyH_take (i := 4) (v := ?_) (by rfl) (by kernel_rfl) (by kernel_rfl) (by kernel_rfl) (fun _ _ _ h => h) (Or.inl ⟨by rfl, ?_⟩) hHeld ?_
      rotate_left
      · intro w' hSw
        (try dsimp only at hSw)
        simp only [List.getElem_toArray, List.getElem_cons_zero, List.getElem_cons_succ]
        go_simp
        all_goals (try with_reducible rfl)
      try simp only [Act.put, List.setIfInBounds_toArray, List.set_cons_zero, List.set_cons_succ, List.getElem_toArray, List.getElem_cons_zero, List.getElem_cons_succ]
      refine wpAnyH_ready (rs := [5]) (by kernel_rfl) (by simp) ?_
      refine AllReadyH.cons (by rfl) (fun K hK => ?_) AllReadyH.nil
      simp only [List.getElem_toArray, List.getElem_cons_zero, List.getElem_cons_succ]
      refine wp_store_of (.tmp 2) (.tmp 68) rfl rfl rfl T14.out ?_
      (try dsimp only)
      refine hK.out _ _ S1.out (fun hHeld => ?_)
      clear hK K
      try simp only [Act.put, List.setIfInBounds_toArray, List.set_cons_zero, List.set_cons_succ, List.getElem_toArray, List.getElem_cons_zero, List.getElem_cons_succ]
      refine wpAnyH_ready (rs := [6]) (by kernel_rfl) (by simp) ?_
      refine AllReadyH.cons (by rfl) (fun K hK => ?_) AllReadyH.nil
      simp only [List.getElem_toArray, List.getElem_cons_zero, List.getElem_cons_succ]
      refine wp_store_of (.tmp 3) (.tmp 70) rfl rfl rfl T15.out ?_
      (try dsimp only)
      refine hK.out _ _ S2.out (fun hHeld => ?_)
      clear hK K
      try simp only [Act.put, List.setIfInBounds_toArray, List.set_cons_zero, List.set_cons_succ, List.getElem_toArray, List.getElem_cons_zero, List.getElem_cons_succ]
      refine wpAnyH_take (i := 7) (v := ?_) (by rfl) (by kernel_rfl) (by kernel_rfl) (by kernel_rfl) (fun _ _ _ h => h) (Or.inl ⟨by rfl, ?_⟩) hHeld ?_
      rotate_left
      · intro w' hSw
        (try dsimp only at hSw)
        simp only [List.getElem_toArray, List.getElem_cons_zero, List.getElem_cons_succ]
        go_simp
        all_goals (try with_reducible rfl)
      try simp only [Act.put, List.setIfInBounds_toArray, List.set_cons_zero, List.set_cons_succ, List.getElem_toArray, List.getElem_cons_zero, List.getElem_cons_succ]
      refine wpAnyH_done (by kernel_rfl) ?_ _
      refine NoPanic.normal ?_
      clear hHeld
      go_wp2_with fail
      refine bodyPost_ret (ret_cct rfl rfl rfl rfl (VY4.out.range mem3 (part_all _)) (VY4.out.range mem2 (part_all _)) Try.underlying30 rfl (sizePkt E1.out) Try.underlying45 rfl (sizeFl _ _)) rfl ?_
      rw [hG.out]
      exact ⟨none, 0, 0, rfl, .inl ⟨rfl, rfl⟩, by simp, VY4.out.below⟩
    by_cases h0 : T.e = 0
    · have hG : Hid (gotR zs = ({ kb with alert := T.alert, frag := T.frag, next := T.last }, T.rest, 0, 0, 0)) := veil (by unfold gotR gotK; rw [VT.out, if_neg h7, if_pos h0, VKB.out])
      have b7 : (T.e == 7) = false := by simpa using h7
      have b0 : (T.e != 0) = false := by simpa using h0
      have L17 := veil (Y1.load mem0 (tc_frag T (.slice A6 n6 c6)) Try.underlying27 rfl sizeFg)
      have T17 := store_part (P := Try.prog) (o := 34) (ty := 27) (vs := fgc T.frag) (Y1.at mem1) (by rw [pc_len E1.out]; show 34 + 4 ≤ 40; omega) (sizeFg) fgc_one'
      rw [pc_put_frag E1.out] at T17
      have Y2 := Y1.put 1 rfl (pc ({ kb with alert := T.alert, frag := T.frag } : Pk) nilV)
      simp only [List.set_cons_zero, List.set_cons_succ] at Y2
      have E2 : Hid (Hd.Ends ({ kb with alert := T.alert, frag := T.frag } : Pk)) := veil ⟨BE.out.s, BE.out.d⟩
      have hS2 := hS1.setRow (g := w.heap.size + 1 + 1) (fun b hb e => absurd (OF.out b hb) (by omega)) (pc ({ kb with alert := T.alert, frag := T.frag } : Pk) nilV).toArray
      obtain ⟨uB, huB⟩ : ∃ u, (uT.setCell ⟨w.heap.size + 1 + 1, 33, none⟩ (.bool T.alert)).setRow (w.heap.size + 1 + 1) (pc ({ kb with alert := T.alert, frag := T.frag } : Pk) nilV).toArray = u := ⟨_, rfl⟩
      rw [huB] at T17 Y2 hS2
      replace T17 := veil T17
      have q0 : uB.cell? ⟨u3.heap.size, 0, none⟩ = some (.int .u8 T.last) := Y2.look mem0 rfl
      have p38 : uB.cell? ⟨w.heap.size + 1 + 1, 38, none⟩ = some (.int .u8 kb.next) := Y2.look mem1 (pc_next E2.out)
      have f38 := Y2.free mem1 38
      have Y3 := Y2.cell 1 rfl 38 (.int .u8 T.last)
      rw [pc_set_next E2.out] at Y3
      simp only [List.set_cons_zero, List.set_cons_succ] at Y3
      have E3 : Hid (Hd.Ends ({ kb with alert := T.alert, frag := T.frag, next := T.last } : Pk)) := veil ⟨BE.out.s, BE.out.d⟩
      have hS3 := hS2.setCellFar (g := w.heap.size + 1 + 1) (fun b hb e => absurd (OF.out b hb) (by omega)) 38 (.int .u8 T.last)
      have q1 : (uB.setCell ⟨w.heap.size + 1 + 1, 38, none⟩ (.int .u8 T.last)).cell? ⟨u3.heap.size, 1, none⟩ = some (.slice A6 n6 c6) := Y3.look mem0 rfl
      have p39 : (uB.setCell ⟨w.heap.size + 1 + 1, 38, none⟩ (.int .u8 T.last)).cell? ⟨w.heap.size + 1 + 1, 39, none⟩ = some nilV := Y3.look mem1 (pc_body E3.out)
      have f39 := Y3.free mem1 39
      have Y4 := Y3.cell 1 rfl 39 (.slice A6 n6 c6)
      rw [pc_set E3.out] at Y4
      simp only [List.set_cons_zero, List.set_cons_succ] at Y4
      have hS4 := hS3.setCellFar (g := w.heap.size + 1 + 1) (fun b hb e => absurd (OF.out b hb) (by omega)) 39 (.slice A6 n6 c6)
      have L20 := veil (pktAt Y4 mem1 E3.out).all
      have T20 := veil (pkt_store (k := ({ kb with alert := T.alert, frag := T.frag, next := T.last } : Pk)) (v := .slice A6 n6 c6) Y4 mem3 hzl.out E3.out rfl)
      have Y5 := Y4.put 3 rfl (pc ({ kb with alert := T.alert, frag := T.frag, next := T.last } : Pk) (.slice A6 n6 c6))
      simp only [List.set_cons_zero, List.set_cons_succ] at Y5
      have hS5 := hS4.setRow (g := w.heap.size) (fun b hb e => absurd (OF.out b hb) (by omega)) (pc ({ kb with alert := T.alert, frag := T.frag, next := T.last } : Pk) (.slice A6 n6 c6)).toArray
      have T21 := veil (store_all (P := Try.prog) (ty := 45) (vs := flc 0 0) (Y5.at mem2) (by rw [hxl.out]; rfl) (sizeFl _ _) (one_fl _ _))
      have Y6 := Y5.put 2 rfl (flc 0 0)
      simp only [List.set_cons_zero, List.set_cons_succ] at Y6
      have hS6 := veil (hS5.setRow (g := w.heap.size + 1) (fun b hb e => absurd (OF.out b hb) (by omega)) (flc 0 0).toArray)
      have OG : Hid (∀ b, A6 = some b → w.heap.size ≤ b.block) := veil (fun b hb => by have := OF.out b hb; omega)
      have VY6' := veil Y6
      have B2 := veil made_fl
      clear Y1 Y2 Y3 Y4 Y5 Y6 VYZ VSL hS1 hS2 hS3 hS4 hS5 huB OF VT VKB h7 h0
      go_upto_region 17 with fail
      go_upto_region 18 with (first | (refine wpList_load_of rfl (.tmp 81) rfl rfl L17.out ?_) | (refine wpList_store_of rfl (.tmp 83) (.tmp 82) rfl rfl rfl T17.out ?_))
      clear L17 T17
      go_upto_region 20 with fail
      go_wp2_with (first
        | (refine wpList_load_of rfl (.tmp 6) rfl rfl L20.out ?_)
        | (refine wpList_build_of rfl 45 #[] rfl #[] (by simp) (B2.out _) ?_)
        | (refine wpList_store_of rfl (.tmp 2) (.tmp 90) rfl rfl rfl T20.out ?_)
        | (refine wpList_store_of rfl (.tmp 3) (.tmp 91) rfl rfl rfl T21.out ?_))
      refine bodyPost_ret (ret_cct rfl rfl rfl rfl (VY6'.out.range mem3 (part_all _)) (VY6'.out.range mem2 (part_all _)) Try.underlying30 rfl (sizePkt E3.out) Try.underlying45 rfl (sizeFl _ _)) rfl ?_
      rw [hG.out]
      exact ⟨A6, n6, c6, rfl, hS6.out, OG.out, VY6'.out.below⟩
    · have hG : Hid (gotR zs = (noPk, [], T.code, T.place, T.e)) := veil (by unfold gotR; rw [VT.out, if_neg h7, if_neg h0])
      have b7 : (T.e == 7) = false := by simpa using h7
      have b0 : (T.e != 0) = true := by simpa using h0
      have Y2 := Y1.drew
      have S0 := veil (And.intro (Y2.range mem0 (tc_flt T (.slice A6 n6 c6))) (Y2.look mem0 (show (tc T (.slice A6 n6 c6))[9]? = some (.int .i64 T.e) from rfl)))
      have T14 := veil (pkt_store (k := noPk) (v := nilV) Y2 mem3 hzl.out noPk_ends rfl)
      have Y3 := Y2.put 3 rfl (pc noPk nilV)
      simp only [List.set_cons_zero, List.set_cons_succ] at Y3
      have S1 := veil (And.intro (Y3.range mem0 (tc_flt T (.slice A6 n6 c6))) (Y3.look mem0 (show (tc T (.slice A6 n6 c6))[9]? = some (.int .i64 T.e) from rfl)))
      have T15 := veil (store_all (P := Try.prog) (ty := 45) (vs := flc T.code T.place) (Y3.at mem2) (by rw [hxl.out]; rfl) (sizeFl _ _) (one_fl _ _))
      have Y4 := Y3.put 2 rfl (flc T.code T.place)
      simp only [List.set_cons_zero, List.set_cons_succ] at Y4
      have S2 := veil (And.intro (Y4.range mem0 (tc_flt T (.slice A6 n6 c6))) (Y4.look mem0 (show (tc T (.slice A6 n6 c6))[9]? = some (.int .i64 T.e) from rfl)))
      have VY4 := veil Y4
      have PM := veil pkt_made
      have NE := veil noPk_ends
      clear Y1 Y2 Y3 Y4 VYZ VSL hS1 OF VT VKB h7 h0
      generalize noPk = kk at *
      go_wp2_with fail
      refine wp_region_noPanic ?_
      refine wp_region_held_drew (S := (fun w' => w'.rangeAt u3.heap.size 7 (flc T.code T.place) ∧ w'.cell? ⟨u3.heap.size, 9, none⟩ = some (.int .i64 T.e))) (by kernel_rfl) S0.out (fun hHeld => ?_)
      refine wpAnyH_take (i := 0) (v := _) (by rfl) (by kernel_rfl) (by kernel_rfl) (by kernel_rfl) (fun _ _ _ h => h) (yieldsIf_build (by rfl) _ _ rfl #[] (by simp) (fun u => PM.out u)) hHeld ?_
      try simp only [Act.put, List.setIfInBounds_toArray, List.set_cons_zero, List.set_cons_succ, List.getElem_toArray, List.getElem_cons_zero, List.getElem_cons_succ]
      refine wpAnyH_take (i := 1) (v := ?_) (by rfl) (by kernel_rfl) (by kernel_rfl) (by kernel_rfl) (fun _ _ _ h => h) (Or.inl ⟨by rfl, ?_⟩) hHeld ?_
      rotate_left
      · intro w' hSw
        (try dsimp only at hSw)
        simp only [List.getElem_toArray, List.getElem_cons_zero, List.getElem_cons_succ]
        go_simp
        all_goals (try with_reducible rfl)
      try simp only [Act.put, List.setIfInBounds_toArray, List.set_cons_zero, List.set_cons_succ, List.getElem_toArray, List.getElem_cons_zero, List.getElem_cons_succ]
      refine wpAnyH_take (i := 2) (v := _) (by rfl) (by kernel_rfl) (by kernel_rfl) (by kernel_rfl) (fun _ _ _ h => h) (yieldsIf_load_mid (by rfl) _ _ (by rfl) _ _ rfl (flc T.code T.place) _ (fun _ h => h.1) Try.underlying45 rfl (sizeFl _ _)) hHeld ?_
      try simp only [Act.put, List.setIfInBounds_toArray, List.set_cons_zero, List.set_cons_succ, List.getElem_toArray, List.getElem_cons_zero, List.getElem_cons_succ]
      refine wpAnyH_take (i := 3) (v := ?_) (by rfl) (by kernel_rfl) (by kernel_rfl) (by kernel_rfl) (fun _ _ _ h => h) (Or.inl ⟨by rfl, ?_⟩) hHeld ?_
      rotate_left
      · intro w' hSw
        (try dsimp only at hSw)
        simp only [List.getElem_toArray, List.getElem_cons_zero, List.getElem_cons_succ]
        go_simp
        all_goals (try with_reducible rfl)
      try simp only [Act.put, List.setIfInBounds_toArray, List.set_cons_zero, List.set_cons_succ, List.getElem_toArray, List.getElem_cons_zero, List.getElem_cons_succ]
      refine wpAnyH_take (i := 4) (v := ?_) (by rfl) (by kernel_rfl) (by kernel_rfl) (by kernel_rfl) (fun _ _ _ h => h) (Or.inl ⟨by rfl, ?_⟩) hHeld ?_
      rotate_left
      · intro w' hSw
        (try dsimp only at hSw)
        simp only [List.getElem_toArray, List.getElem_cons_zero, List.getElem_cons_succ]
        go_simp
        all_goals (try with_reducible rfl)
      try simp only [Act.put, List.setIfInBounds_toArray, List.set_cons_zero, List.set_cons_succ, List.getElem_toArray, List.getElem_cons_zero, List.getElem_cons_succ]
      refine wpAnyH_ready (rs := [5]) (by kernel_rfl) (by simp) ?_
      refine AllReadyH.cons (by rfl) (fun K hK => ?_) AllReadyH.nil
      simp only [List.getElem_toArray, List.getElem_cons_zero, List.getElem_cons_succ]
      refine wp_store_of (.tmp 2) (.tmp 76) rfl rfl rfl T14.out ?_
      (try dsimp only)
      refine hK.out _ _ S1.out (fun hHeld => ?_)
      clear hK K
      try simp only [Act.put, List.setIfInBounds_toArray, List.set_cons_zero, List.set_cons_succ, List.getElem_toArray, List.getElem_cons_zero, List.getElem_cons_succ]
      refine wpAnyH_ready (rs := [6]) (by kernel_rfl) (by simp) ?_
      refine AllReadyH.cons (by rfl) (fun K hK => ?_) AllReadyH.nil
      simp only [List.getElem_toArray, List.getElem_cons_zero, List.getElem_cons_succ]
      refine wp_store_of (.tmp 3) (.tmp 78) rfl rfl rfl T15.out ?_
      (try dsimp only)
      refine hK.out _ _ S2.out (fun hHeld => ?_)
      clear hK K
      try simp only [Act.put, List.setIfInBounds_toArray, List.set_cons_zero, List.set_cons_succ, List.getElem_toArray, List.getElem_cons_zero, List.getElem_cons_succ]
      refine wpAnyH_take (i := 7) (v := ?_) (by rfl) (by kernel_rfl) (by kernel_rfl) (by kernel_rfl) (fun _ _ _ h => h) (Or.inl ⟨by rfl, ?_⟩) hHeld ?_
      rotate_left
      · intro w' hSw
        (try dsimp only at hSw)
        simp only [List.getElem_toArray, List.getElem_cons_zero, List.getElem_cons_succ]
        go_simp
        all_goals (try with_reducible rfl)
      try simp only [Act.put, List.setIfInBounds_toArray, List.set_cons_zero, List.set_cons_succ, List.getElem_toArray, List.getElem_cons_zero, List.getElem_cons_succ]
      refine wpAnyH_done (by kernel_rfl) ?_ _
      refine NoPanic.normal ?_
      clear hHeld
      go_wp2_with fail
      refine bodyPost_ret (ret_cct rfl rfl rfl rfl (VY4.out.range mem3 (part_all _)) (VY4.out.range mem2 (part_all _)) Try.underlying30 rfl (sizePkt NE.out) Try.underlying45 rfl (sizeFl _ _)) rfl ?_
      rw [hG.out]
      exact ⟨none, 0, 0, rfl, .inl ⟨rfl, rfl⟩, by simp, VY4.out.below⟩

end Go.Proofs.Ytfkjfdmepeahnaa.Hd
