/-
  Messages that are the same; a message's twin; a twin that was left as it was made.
  Conditions: lists of bounded length.
-/
import Derived.Test.YthkiamkhignchaaDoorChkAll
import Derived.Test.YthkiamkhignchaaDoorMsgT
import Derived.Test.YthkiamkhignchaaDoorOpoY
namespace Go.Proofs.YthkiamkhignchaaDoor.Mg
set_option maxRecDepth 100000
open Go.RowKit Ops Hd
open Ck (store_single size_bytes size_opts)
open Oz (Reads ReadsA Twins Fine twinAddrs_any leftAddrs_true sameA_true oddV twinOptions_any leftOptions_true sameOptions_true)

/-- where a message's lists lie -/
structure Four where
  dA : Option Addr
  dc : Nat
  oA : Option Addr
  oc : Nat
  sA : Option Addr
  sc : Nat
  rA : Option Addr
  rc : Nat
def mf (m : Ms) (zs : List Int) (os : List (Int × List Int)) (az : List (List Int)) (rs : List Rc) (f : Four) : Ms :=
  { m with data := .slice f.dA zs.length f.dc, opts := .slice f.oA os.length f.oc, srcs := .slice f.sA az.length f.sc, recs := .slice f.rA rs.length f.rc }
structure Rd4 (w : World) (f : Four) (zs : List Int) (os : List (Int × List Int)) (az : List (List Int)) (rs : List Rc) : Prop where
  d : Rd w f.dA zs
  o : Reads w f.oA os
  s : ReadsA w f.sA az
  r : ReadsR w f.rA rs
/-- lists of bounded length -/
structure Bnd (zs : List Int) (os : List (Int × List Int)) (az : List (List Int)) (rs : List Rc) : Prop where
  d : zs.length ≤ 16000000
  o : os.length ≤ 1000000
  ob : ∀ o ∈ os, o.2.length ≤ 16000000
  s : az.length ≤ 900000
  r : rs.length ≤ 1000000
  rb : ∀ r ∈ rs, r.s.length ≤ 900000
section
variable {w w' : World} {f : Four} {m : Ms} {zs : List Int} {os : List (Int × List Int)} {az : List (List Int)} {rs : List Rc}
theorem Rd4.keep (h : Rd4 w f zs os az rs) (q : Below w.heap.size w w') : Rd4 w' f zs os az rs := ⟨h.d.keep q, h.o.keep q, h.s.keep q, h.r.keep q⟩
theorem mf_fine (h : Fine3 m) : Fine3 (mf m zs os az rs f) := ⟨h.t, h.d, h.g, rfl, rfl, rfl, rfl⟩
theorem MsIn.four (h : MsIn w m zs os az rs) : ∃ f, m = mf m zs os az rs f ∧ Rd4 w f zs os az rs := by
  obtain ⟨A, a, e1, s1⟩ := h.data
  obtain ⟨B, b, e2, s2⟩ := h.opts
  obtain ⟨C, c, e3, s3⟩ := h.srcs
  obtain ⟨D, d, e4, s4⟩ := h.recs
  refine ⟨⟨A, a, B, b, C, c, D, d⟩, ?_, ⟨(slc_of s1).2.1, s2, s3, s4⟩⟩
  unfold mf
  rw [← e1, ← e2, ← e3, ← e4]
theorem bnd_of (h : great zs os az rs = false) : Bnd zs os az rs := by
  unfold great at h
  simp only [Bool.or_eq_false_iff, decide_eq_false_iff_not] at h
  have hl := sumR_len rs
  refine ⟨by omega, by omega, fun o ho => ?_, by omega, by omega, fun r hr => ?_⟩
  · have := Oz.sumL_mem ho
    omega
  · have := sumR_mem hr
    omega
end

set_option linter.unusedSimpArgs false in
set_option maxHeartbeats 8000000 in
theorem sameMessage_true (m : Ms) (zs : List Int) (os : List (Int × List Int)) (az : List (List Int)) (rs : List Rc) (f f' : Four) (w : World) (F : Fine3 m) (hf : Rd4 w f zs os az rs) (hf' : Rd4 w f' zs os az rs) (hb : Bnd zs os az rs) :
    Calls Tryd.prog 32 #[mv (mf m zs os az rs f), mv (mf m zs os az rs f')] w fun e w' => e = .returned (.bool true) ∧ Below w.heap.size w w' := by
  have Y := ((Lay.begin w).new (mc (mf m zs os az rs f)) 35 rfl).new (mc (mf m zs os az rs f')) 35 (g := w.heap.size + 1) (by simp)
  obtain ⟨wb, hwb⟩ : ∃ x, (w.alloc (.cells (mc (mf m zs os az rs f)).toArray 35)).alloc (.cells (mc (mf m zs os az rs f')).toArray 35) = x := ⟨_, rfl⟩
  rw [hwb] at Y
  have F0 := veil (msgAt Y mem1 (mf_fine F))
  have F1 := veil (msgAt Y mem0 (mf_fine F))
  have a0 : wb.cell? ⟨w.heap.size, 0, none⟩ = some (.int .u8 m.kind) := F0.out.kind
  have b0 : wb.cell? ⟨w.heap.size + 1, 0, none⟩ = some (.int .u8 m.kind) := F1.out.kind
  have a1 : wb.cell? ⟨w.heap.size, 1, none⟩ = some (.int .u8 m.code) := F0.out.code
  have b1 : wb.cell? ⟨w.heap.size + 1, 1, none⟩ = some (.int .u8 m.code) := F1.out.code
  have a2 : wb.cell? ⟨w.heap.size, 2, none⟩ = some (.int .u32 m.param) := F0.out.param
  have b2 : wb.cell? ⟨w.heap.size + 1, 2, none⟩ = some (.int .u32 m.param) := F1.out.param
  have a4 : wb.cell? ⟨w.heap.size, 4, none⟩ = some (.int .u8 m.hops) := F0.out.hops
  have b4 : wb.cell? ⟨w.heap.size + 1, 4, none⟩ = some (.int .u8 m.hops) := F1.out.hops
  have a5 : wb.cell? ⟨w.heap.size, 5, none⟩ = some (.int .u8 m.flags) := F0.out.flags
  have b5 : wb.cell? ⟨w.heap.size + 1, 5, none⟩ = some (.int .u8 m.flags) := F1.out.flags
  have a6 : wb.cell? ⟨w.heap.size, 6, none⟩ = some (.int .u16 m.life) := F0.out.life
  have b6 : wb.cell? ⟨w.heap.size + 1, 6, none⟩ = some (.int .u16 m.life) := F1.out.life
  have a7 : wb.cell? ⟨w.heap.size, 7, none⟩ = some (.int .u32 m.reach) := F0.out.reach
  have b7 : wb.cell? ⟨w.heap.size + 1, 7, none⟩ = some (.int .u32 m.reach) := F1.out.reach
  have a8 : wb.cell? ⟨w.heap.size, 8, none⟩ = some (.int .u32 m.retr) := F0.out.retr
  have b8 : wb.cell? ⟨w.heap.size + 1, 8, none⟩ = some (.int .u32 m.retr) := F1.out.retr
  have N1 : ∀ u, (binOp .neq 23 (av m.t) (av m.t)).run Tryd.prog u = .ok (.bool false) u := fun u => by simpa using arr_neq (t := 23) Tryd.underlying23 u F.t F.t (z := true) (by simp)
  have N2 : ∀ u, (binOp .neq 23 (av m.d) (av m.d)).run Tryd.prog u = .ok (.bool false) u := fun u => by simpa using arr_neq (t := 23) Tryd.underlying23 u F.d F.d (z := true) (by simp)
  have N3 : ∀ u, (binOp .neq 23 (av m.grp) (av m.grp)).run Tryd.prog u = .ok (.bool false) u := fun u => by simpa using arr_neq (t := 23) Tryd.underlying23 u F.g F.g (z := true) (by simp)
  have VY := veil Y
  have VF := veil F
  have R0 := veil (hf.keep Y.below)
  have R1 := veil (hf'.keep Y.below)
  have VB := veil hb
  clear Y F hf hf' hb
  subst hwb
  go_enter Tryd.func32, Tryd.ntmps32
  go_upto_region 3 with fail
  clear a0 b0 a1 b1 a2 b2 a4 b4 a5 b5 a6 b6 a7 b7 a8 b8
  generalize (w.alloc (.cells (mc (mf m zs os az rs f)).toArray 35)).alloc (.cells (mc (mf m zs os az rs f')).toArray 35) = wb at *
  have a0 : wb.cell? ⟨w.heap.size, 42, none⟩ = some (.int .u16 m.max) := F0.out.max
  have b0 : wb.cell? ⟨w.heap.size + 1, 42, none⟩ = some (.int .u16 m.max) := F1.out.max
  have a1 : wb.cell? ⟨w.heap.size, 59, none⟩ = some (.int .u8 m.rob) := F0.out.rob
  have b1 : wb.cell? ⟨w.heap.size + 1, 59, none⟩ = some (.int .u8 m.rob) := F1.out.rob
  have a2 : wb.cell? ⟨w.heap.size, 60, none⟩ = some (.int .u8 m.intv) := F0.out.intv
  have b2 : wb.cell? ⟨w.heap.size + 1, 60, none⟩ = some (.int .u8 m.intv) := F1.out.intv
  have L1 : (Instr.loadAt 23 (.pointer (some ⟨w.heap.size, 9, none⟩))).run Tryd.prog wb = .ok (av m.t) wb := F0.out.t
  have L2 : (Instr.loadAt 23 (.pointer (some ⟨w.heap.size + 1, 9, none⟩))).run Tryd.prog wb = .ok (av m.t) wb := F1.out.t
  have L3 : (Instr.loadAt 23 (.pointer (some ⟨w.heap.size, 25, none⟩))).run Tryd.prog wb = .ok (av m.d) wb := F0.out.d
  have L4 : (Instr.loadAt 23 (.pointer (some ⟨w.heap.size + 1, 25, none⟩))).run Tryd.prog wb = .ok (av m.d) wb := F1.out.d
  have L5 : (Instr.loadAt 23 (.pointer (some ⟨w.heap.size, 43, none⟩))).run Tryd.prog wb = .ok (av m.grp) wb := F0.out.grp
  have L6 : (Instr.loadAt 23 (.pointer (some ⟨w.heap.size + 1, 43, none⟩))).run Tryd.prog wb = .ok (av m.grp) wb := F1.out.grp
  have VL1 := veil L1
  have VL2 := veil L2
  have VL3 := veil L3
  have VL4 := veil L4
  have VL5 := veil L5
  have VL6 := veil L6
  clear L1 L2 L3 L4 L5 L6
  go_upto_region 5 with (first
    | (refine wpList_load_of rfl (.tmp 59) rfl rfl VL1.out ?_)
    | (refine wpList_load_of rfl (.tmp 61) rfl rfl VL2.out ?_)
    | (refine wpList_load_of rfl (.tmp 65) rfl rfl VL3.out ?_)
    | (refine wpList_load_of rfl (.tmp 67) rfl rfl VL4.out ?_)
    | (refine wpList_load_of rfl (.tmp 79) rfl rfl VL5.out ?_)
    | (refine wpList_load_of rfl (.tmp 81) rfl rfl VL6.out ?_))
  clear a0 b0 a1 b1 a2 b2 VL1 VL2 VL3 VL4 VL5 VL6 N1 N2 N3
  have a0 : wb.cell? ⟨w.heap.size, 3, none⟩ = some (.slice f.dA zs.length f.dc) := F0.out.data
  have b0 : wb.cell? ⟨w.heap.size + 1, 3, none⟩ = some (.slice f'.dA zs.length f'.dc) := F1.out.data
  have K := veil (same_eq f.dA f'.dA zs.length f.dc f'.dc zs _ rfl (by have := VB.out.d; unfold maxLen; omega) R0.out.d R1.out.d)
  go_wp2_with fail
  clear a0 b0
  refine (K.out).mono ?_
  rintro e w1 ⟨rfl, hs⟩
  have VY := veil (VY.out.still hs)
  have q1 := below_still (Below.refl wb.heap.size wb) hs
  have R0 := veil (R0.out.keep q1)
  have R1 := veil (R1.out.keep q1)
  clear hs q1 K F0 F1
  have a0 : w1.cell? ⟨w.heap.size, 41, none⟩ = some (.slice f.oA os.length f.oc) := (msgAt VY.out mem1 (mf_fine VF.out)).opts
  have b0 : w1.cell? ⟨w.heap.size + 1, 41, none⟩ = some (.slice f'.oA os.length f'.oc) := (msgAt VY.out mem0 (mf_fine VF.out)).opts
  have K := veil (sameOptions_true f.oA f'.oA os.length f.oc f'.oc os w1 rfl R0.out.o R1.out.o VB.out.o VB.out.ob)
  go_wp2_with fail
  clear a0 b0
  refine (K.out).mono ?_
  rintro e w2 ⟨rfl, q⟩
  have VY := veil (VY.out.keep q)
  have R0 := veil (R0.out.keep q)
  have R1 := veil (R1.out.keep q)
  clear q K
  have a0 : w2.cell? ⟨w.heap.size, 61, none⟩ = some (.slice f.sA az.length f.sc) := (msgAt VY.out mem1 (mf_fine VF.out)).srcs
  have b0 : w2.cell? ⟨w.heap.size + 1, 61, none⟩ = some (.slice f'.sA az.length f'.sc) := (msgAt VY.out mem0 (mf_fine VF.out)).srcs
  have K := veil (sameA_true f.sA f'.sA az.length f.sc f'.sc az w2 rfl (by have := VB.out.s; omega) R0.out.s R1.out.s)
  go_wp2_with fail
  clear a0 b0
  refine (K.out).mono ?_
  rintro e w3 ⟨rfl, q⟩
  have VY := veil (VY.out.keep q)
  have R0 := veil (R0.out.keep q)
  have R1 := veil (R1.out.keep q)
  clear q K
  have a0 : w3.cell? ⟨w.heap.size, 62, none⟩ = some (.slice f.rA rs.length f.rc) := (msgAt VY.out mem1 (mf_fine VF.out)).recs
  have b0 : w3.cell? ⟨w.heap.size + 1, 62, none⟩ = some (.slice f'.rA rs.length f'.rc) := (msgAt VY.out mem0 (mf_fine VF.out)).recs
  have K := veil (sameRecords_true f.rA f'.rA rs.length f.rc f'.rc rs w3 rfl VB.out.r R0.out.r R1.out.r VB.out.rb)
  go_wp2_with fail
  clear a0 b0
  refine (K.out).mono ?_
  rintro e w4 ⟨rfl, q⟩
  have VY := veil (VY.out.keep q)
  clear q K
  go_wp2_with fail
  go_ret
  exact ⟨rfl, VY.out.below⟩

/-- a message's twin: where its lists lie, and what lies there -/
structure TwM (w0 w : World) (q go gs gr : Nat) (lo : List Oz.El) (lr : List Rl) (zs : List Int) (os : List (Int × List Int)) (az : List (List Int)) (rs : List Rc) : Prop where
  d : TwinAt w q zs
  dq : w0.heap.size ≤ q
  o : Twins w0 w go lo os (os.length + 4)
  s : TwinA w gs az
  sq : w0.heap.size ≤ gs
  r : TwinR w0 w gr lr rs (rs.length + 4)
def tf (q go gs gr : Nat) (zs : List Int) (os : List (Int × List Int)) (az : List (List Int)) (rs : List Rc) : Four := ⟨some ⟨q, 0, none⟩, zs.length + 4, some ⟨go, 0, none⟩, os.length + 4, some ⟨gs, 0, none⟩, az.length + 4, some ⟨gr, 0, none⟩, rs.length + 4⟩
section
variable {w0 w w' : World} {q go gs gr b : Nat} {lo : List Oz.El} {lr : List Rl} {zs : List Int} {os : List (Int × List Int)} {az : List (List Int)} {rs : List Rc} {cs0 : Array Value}
theorem TwM.keep (h : TwM w0 w q go gs gr lo lr zs os az rs) (k : Below w.heap.size w w') : TwM w0 w' q go gs gr lo lr zs os az rs := ⟨Row.keep h.d k, h.dq, h.o.keep k, Row.keep h.s k, h.sq, h.r.keep k⟩
theorem TwM.rd4 (h : TwM w0 w q go gs gr lo lr zs os az rs) (h1 : ∀ a ∈ az, a.length = 16) (h2 : ∀ r ∈ rs, ∀ a ∈ r.s, a.length = 16) : Rd4 w (tf q go gs gr zs os az rs) zs os az rs := ⟨h.d.rd, h.o.reads, h.s.reads h1, h.r.reads h2⟩
theorem Twins.mono {w1 : World} {g i : Nat} {ls : List Oz.El} (h : Twins w1 w g ls os i) (k : Below w0.heap.size w0 w1) : Twins w0 w g ls os i :=
  ⟨h.len, h.row, Nat.le_trans k.size h.own, fun j o hj ho => by
    obtain ⟨x, h1, h2, h3⟩ := h.each j o hj ho
    exact ⟨x, h1, h2, Nat.le_trans k.size h3⟩, h.room, h.apart, k.trans (h.below.mono k.size)⟩
theorem TwinR.mono {w1 : World} {g i : Nat} {ls : List Rl} (h : TwinR w1 w g ls rs i) (k : Below w0.heap.size w0 w1) : TwinR w0 w g ls rs i :=
  ⟨h.len, h.g16, h.row, Nat.le_trans k.size h.own, fun j o hj ho => by
    obtain ⟨x, h1, h2, h3⟩ := h.each j o hj ho
    exact ⟨x, h1, h2, Nat.le_trans k.size h3⟩, h.room, k.trans (h.below.mono k.size)⟩
theorem Twins.other {g i : Nat} {ls : List Oz.El} (h : Twins w0 w g ls os i) (hr : Row w b 35 cs0) (hb : w0.heap.size ≤ b) (cs : Array Value) : Twins w0 (w.setRow b cs) g ls os i :=
  ⟨h.len, row_setRow_far h.row _ (row_ne h.row hr (by decide)), h.own, fun j o hj ho => by
    obtain ⟨x, h1, h2, h3⟩ := h.each j o hj ho
    exact ⟨x, h1, row_setRow_far h2 _ (row_ne h2 hr (by decide)), h3⟩, h.room, h.apart, below_setRow h.below b _ hb⟩
theorem TwinR.other {g i : Nat} {ls : List Rl} (h : TwinR w0 w g ls rs i) (hr : Row w b 35 cs0) (hb : w0.heap.size ≤ b) (cs : Array Value) : TwinR w0 (w.setRow b cs) g ls rs i :=
  ⟨h.len, h.g16, row_setRow_far h.row _ (row_ne h.row hr (by decide)), h.own, fun j o hj ho => by
    obtain ⟨x, h1, h2, h3⟩ := h.each j o hj ho
    exact ⟨x, h1, row_setRow_far h2 _ (row_ne h2 hr (by decide)), h3⟩, h.room, below_setRow h.below b _ hb⟩
theorem TwM.other (h : TwM w0 w q go gs gr lo lr zs os az rs) (hr : Row w b 35 cs0) (hb : w0.heap.size ≤ b) (cs : Array Value) : TwM w0 (w.setRow b cs) q go gs gr lo lr zs os az rs :=
  ⟨row_setRow_far h.d _ (row_ne h.d hr (by decide)), h.dq, Twins.other h.o hr hb cs, row_setRow_far h.s _ (row_ne h.s hr (by decide)), h.sq, h.r.other hr hb cs⟩
end
theorem size_addrs : (Tryd.prog.info? 32).map (·.size) = some 1 := by kernel_rfl
theorem size_recs : (Tryd.prog.info? 33).map (·.size) = some 1 := by kernel_rfl
theorem mc_data {m : Ms} (u : Value) : (mc m).set 3 u = mc { m with data := u } := rfl
theorem mc_tail4 (m : Ms) : mc m = ([.int .u8 m.kind, .int .u8 m.code, .int .u32 m.param, m.data, .int .u8 m.hops, .int .u8 m.flags, .int .u16 m.life, .int .u32 m.reach, .int .u32 m.retr] ++ (bv m.t ++ (bv m.d ++ ([m.opts, .int .u16 m.max] ++ bv m.grp)))) ++ [.int .u8 m.rob, .int .u8 m.intv, m.srcs, m.recs] := by
  unfold mc
  simp only [List.append_assoc]
theorem mc_front {m : Ms} (h : Fine3 m) : ([.int .u8 m.kind, .int .u8 m.code, .int .u32 m.param, m.data, .int .u8 m.hops, .int .u8 m.flags, .int .u16 m.life, .int .u32 m.reach, .int .u32 m.retr] ++ (bv m.t ++ (bv m.d ++ ([m.opts, .int .u16 m.max] ++ bv m.grp))) : List Value).length = 59 := by simp [bv_length, h.t, h.d, h.g]
theorem mc_srcs {m : Ms} (h : Fine3 m) (u : Value) : (mc m).set 61 u = mc { m with srcs := u } := by
  rw [mc_tail4, List.set_append_right _ _ (by rw [mc_front h]; omega), mc_front h, mc_tail4]
  rfl
theorem mc_recs {m : Ms} (h : Fine3 m) (u : Value) : (mc m).set 62 u = mc { m with recs := u } := by
  rw [mc_tail4, List.set_append_right _ _ (by rw [mc_front h]; omega), mc_front h, mc_tail4]
  rfl
theorem lay_single {w0 w : World} {L : List Blk} {g : Nat} {t : TypeId} {cs cs' : List Value} {P : Program} (h : Lay w0 w L) (i : Nat) (hi : L[i]? = some (g, t, cs)) (o : Nat) (u : Value) (ty : TypeId) (ho : o < cs.length) (hs : (P.info? ty).map (·.size) = some 1) (h1 : u.oneCell' = true) (hc : u.cells = #[u]) (he : cs.set o u = cs') :
    (Instr.storeAt ty (.pointer (some ⟨g, o, none⟩)) u).run P w = .ok () (w.setRow g cs'.toArray) ∧ Lay w0 (w.setRow g cs'.toArray) (L.set i (g, t, cs')) := by
  subst he
  exact ⟨store_single (h.row _ (List.mem_of_getElem? hi)) ho hs h1 hc, h.put i hi _⟩

set_option linter.unusedSimpArgs false in
set_option maxHeartbeats 8000000 in
theorem twinMessage_any (m : Ms) (zs : List Int) (os : List (Int × List Int)) (az : List (List Int)) (rs : List Rc) (f : Four) (w : World) (F : Fine3 m) (hf : Rd4 w f zs os az rs) (hb : Bnd zs os az rs) :
    Calls Tryd.prog 10 #[mv (mf m zs os az rs f)] w fun e w' => ∃ q go gs gr lo lr, e = .returned (mv (mf m zs os az rs (tf q go gs gr zs os az rs))) ∧ TwM w w' q go gs gr lo lr zs os az rs ∧ Below w.heap.size w w' := by
  obtain ⟨m0, hm0⟩ : ∃ x, mf m zs os az rs f = x := ⟨_, rfl⟩
  obtain ⟨ZM, hZM⟩ : ∃ Z : Array Value, Z = #[.int .u8 0, .int .u8 0, .int .u32 0, .slice none 0 0, .int .u8 0, .int .u8 0, .int .u16 0, .int .u32 0, .int .u32 0, .int .u8 0, .int .u8 0, .int .u8 0, .int .u8 0, .int .u8 0, .int .u8 0, .int .u8 0, .int .u8 0, .int .u8 0, .int .u8 0, .int .u8 0, .int .u8 0, .int .u8 0, .int .u8 0, .int .u8 0, .int .u8 0, .int .u8 0, .int .u8 0, .int .u8 0, .int .u8 0, .int .u8 0, .int .u8 0, .int .u8 0, .int .u8 0, .int .u8 0, .int .u8 0, .int .u8 0, .int .u8 0, .int .u8 0, .int .u8 0, .int .u8 0, .int .u8 0, .slice none 0 0, .int .u16 0, .int .u8 0, .int .u8 0, .int .u8 0, .int .u8 0, .int .u8 0, .int .u8 0, .int .u8 0, .int .u8 0, .int .u8 0, .int .u8 0, .int .u8 0, .int .u8 0, .int .u8 0, .int .u8 0, .int .u8 0, .int .u8 0, .int .u8 0, .int .u8 0, .slice none 0 0, .slice none 0 0] := ⟨_, rfl⟩
  have hz : Hid (ZM.toList.length = 63) := by rw [hZM]; exact rfl
  have F0 : Fine3 m0 := by rw [← hm0]; exact mf_fine F
  have E1 : m0.data = .slice f.dA zs.length f.dc := by rw [← hm0]; rfl
  have E2 : m0.opts = .slice f.oA os.length f.oc := by rw [← hm0]; rfl
  have E3 : m0.srcs = .slice f.sA az.length f.sc := by rw [← hm0]; rfl
  have E4 : m0.recs = .slice f.rA rs.length f.rc := by rw [← hm0]; rfl
  have Y := ((Lay.begin w).new (mc m0) 35 rfl).newA ZM 35 (g := w.heap.size + 1) (by simp)
  have b0 := (msgAt Y mem1 F0).data
  rw [E1] at b0
  have HF := veil hf
  have VY := veil Y
  have VF := veil F0
  have VE2 := veil E2
  have VE3 := veil E3
  have VE4 := veil E4
  have VB := veil hb
  have HM0 := veil hm0
  rw [hm0]
  clear Y hf F F0 E1 E2 E3 E4 hb hm0
  obtain ⟨w1, hw1⟩ : ∃ w1, (w.alloc (.cells (mc m0).toArray 35)).alloc (.cells ZM 35) = w1 := ⟨_, rfl⟩
  rw [hw1] at b0 VY
  have T := veil (twinB f.dA zs.length f.dc zs w1 rfl VB.out.d (HF.out.keep VY.out.below).d)
  go_enter Tryd.func10, Tryd.ntmps10
  generalize ZM.toList = ZL at *
  subst hw1 hZM
  go_wp2_with fail
  clear b0
  refine (T.out).mono ?_
  rintro e w2 ⟨q, hq, rfl, t2, q2⟩
  obtain ⟨D, hD⟩ : ∃ x, Value.slice (some ⟨q, 0, none⟩) zs.length (zs.length + 4) = x := ⟨_, rfl⟩
  have d1 : D.oneCell' = true := by rw [← hD]; rfl
  have d2 : D.cells = #[D] := by rw [← hD]; rfl
  have Y2 := VY.out.keep q2
  have F3 := veil (⟨VF.out.t, VF.out.d, VF.out.g, d1, VF.out.v2, VF.out.v3, VF.out.v4⟩ : Fine3 { m0 with data := D })
  obtain ⟨S3, Y3⟩ := lay_single (P := Tryd.prog) Y2 1 rfl 3 D 28 (cs' := mc { m0 with data := D }) (by rw [mc_len VF.out]; omega) size_bytes d1 d2 (mc_data D)
  simp only [List.set_cons_zero, List.set_cons_succ] at Y3
  have t3 : TwinAt (w2.setRow w.heap.size (mc { m0 with data := D }).toArray) q zs := row_setRow_far t2 _ (row_ne t2 (Y2.at mem1) (by decide))
  have hq0 : w.heap.size ≤ q := Nat.le_trans VY.out.below.size hq
  generalize w2.setRow w.heap.size (mc { m0 with data := D }).toArray = w3 at S3 Y3 t3
  have VT3 := veil t3
  have HQ := veil hq0
  have HD := veil hD
  have VS3 := veil S3
  have VY := veil Y3
  have VD1 := veil d1
  rw [hD]
  have c3 := (msgAt VY.out mem1 F3.out).opts
  simp only at c3
  rw [VE2.out] at c3
  have T := veil (twinOptions_any f.oA os.length f.oc os w3 rfl VB.out.o (HF.out.keep VY.out.below).o VB.out.ob)
  clear t2 q2 hq hq0 hD d1 d2 Y2 S3 Y3 t3
  go_wp2_with (refine wpList_store_of rfl (.tmp 6) (.tmp 5) rfl rfl rfl VS3.out ?_)
  clear c3 VS3
  refine (T.out).mono ?_
  rintro e w4 ⟨go, lo, rfl, to4⟩
  obtain ⟨O, hO⟩ : ∃ x, Value.slice (some ⟨go, 0, none⟩) os.length (os.length + 4) = x := ⟨_, rfl⟩
  have d1 : O.oneCell' = true := by rw [← hO]; rfl
  have d2 : O.cells = #[O] := by rw [← hO]; rfl
  have q4 := to4.below
  have Y4 := VY.out.keep q4
  have F5 := veil (⟨VF.out.t, VF.out.d, VF.out.g, VD1.out, d1, VF.out.v3, VF.out.v4⟩ : Fine3 { m0 with data := D, opts := O })
  obtain ⟨S5, Y5⟩ := lay_single (P := Tryd.prog) Y4 1 rfl 41 O 31 (cs' := mc { m0 with data := D, opts := O }) (by rw [mc_len F3.out]; omega) size_opts d1 d2 (Ck.mc_opts F3.out O)
  simp only [List.set_cons_zero, List.set_cons_succ] at Y5
  have t5 : TwinAt (w4.setRow w.heap.size (mc { m0 with data := D, opts := O }).toArray) q zs := row_setRow_far (Row.keep VT3.out q4) _ (row_ne (Row.keep VT3.out q4) (Y4.at mem1) (by decide))
  have o5 := Twins.other (Twins.mono to4 VY.out.below) (Y4.at mem1) (Nat.le_refl _) (mc { m0 with data := D, opts := O }).toArray
  generalize w4.setRow w.heap.size (mc { m0 with data := D, opts := O }).toArray = w5 at S5 Y5 t5 o5
  have VT5 := veil t5
  have VO5 := veil o5
  have HO := veil hO
  have VS5 := veil S5
  have VY := veil Y5
  have VO1 := veil d1
  rw [hO]
  have c5 := (msgAt VY.out mem1 F5.out).srcs
  simp only at c5
  rw [VE3.out] at c5
  have T := veil (twinAddrs_any f.sA az.length f.sc az w5 rfl VB.out.s (HF.out.keep VY.out.below).s)
  clear VT3 to4 q4 hO d1 d2 Y4 S5 Y5 t5 o5
  go_wp2_with (refine wpList_store_of rfl (.tmp 10) (.tmp 9) rfl rfl rfl VS5.out ?_)
  clear c5 VS5
  refine (T.out).mono ?_
  rintro e w6 ⟨gs, rfl, yl⟩
  obtain ⟨S, hS⟩ : ∃ x, Value.slice (some ⟨gs, 0, none⟩) az.length (az.length + 4) = x := ⟨_, rfl⟩
  have d1 : S.oneCell' = true := by rw [← hS]; rfl
  have d2 : S.cells = #[S] := by rw [← hS]; rfl
  have q6 := yl.below
  have ts6 : TwinA w6 gs az := yl.at mem0
  have hs6 : w.heap.size ≤ gs := Nat.le_trans VY.out.below.size (yl.own _ mem0)
  have Y6 := VY.out.keep q6
  have F7 := veil (⟨VF.out.t, VF.out.d, VF.out.g, VD1.out, VO1.out, d1, VF.out.v4⟩ : Fine3 { m0 with data := D, opts := O, srcs := S })
  obtain ⟨S7, Y7⟩ := lay_single (P := Tryd.prog) Y6 1 rfl 61 S 32 (cs' := mc { m0 with data := D, opts := O, srcs := S }) (by rw [mc_len F5.out]; omega) size_addrs d1 d2 (mc_srcs F5.out S)
  simp only [List.set_cons_zero, List.set_cons_succ] at Y7
  have t7 : TwinAt (w6.setRow w.heap.size (mc { m0 with data := D, opts := O, srcs := S }).toArray) q zs := row_setRow_far (Row.keep VT5.out q6) _ (row_ne (Row.keep VT5.out q6) (Y6.at mem1) (by decide))
  have o7 := Twins.other (VO5.out.keep q6) (Y6.at mem1) (Nat.le_refl _) (mc { m0 with data := D, opts := O, srcs := S }).toArray
  have s7 : TwinA (w6.setRow w.heap.size (mc { m0 with data := D, opts := O, srcs := S }).toArray) gs az := row_setRow_far ts6 _ (row_ne ts6 (Y6.at mem1) (by decide))
  generalize w6.setRow w.heap.size (mc { m0 with data := D, opts := O, srcs := S }).toArray = w7 at S7 Y7 t7 o7 s7
  have VT7 := veil t7
  have VO7 := veil o7
  have VS7a := veil s7
  have HS6 := veil hs6
  have HS := veil hS
  have VS7 := veil S7
  have VY := veil Y7
  have VSo := veil d1
  rw [hS]
  have c7 := (msgAt VY.out mem1 F7.out).recs
  simp only at c7
  rw [VE4.out] at c7
  have T := veil (twinRecords_any f.rA rs.length f.rc rs w7 rfl VB.out.r (HF.out.keep VY.out.below).r VB.out.rb)
  clear VT5 VO5 yl q6 ts6 hs6 hS d1 d2 Y6 S7 Y7 t7 o7 s7
  go_wp2_with (refine wpList_store_of rfl (.tmp 14) (.tmp 13) rfl rfl rfl VS7.out ?_)
  clear c7 VS7
  refine (T.out).mono ?_
  rintro e w8 ⟨gr, lr, rfl, tr8⟩
  obtain ⟨R, hR⟩ : ∃ x, Value.slice (some ⟨gr, 0, none⟩) rs.length (rs.length + 4) = x := ⟨_, rfl⟩
  have d1 : R.oneCell' = true := by rw [← hR]; rfl
  have d2 : R.cells = #[R] := by rw [← hR]; rfl
  have q8 := tr8.below
  have Y8 := VY.out.keep q8
  obtain ⟨m9, hm9⟩ : ∃ x : Ms, { m0 with data := D, opts := O, srcs := S, recs := R } = x := ⟨_, rfl⟩
  have F9 := veil (by rw [← hm9]; exact ⟨VF.out.t, VF.out.d, VF.out.g, VD1.out, VO1.out, VSo.out, d1⟩ : Fine3 m9)
  obtain ⟨S9, Y9⟩ := lay_single (P := Tryd.prog) Y8 1 rfl 62 R 33 (cs' := mc m9) (by rw [mc_len F7.out]; omega) size_recs d1 d2 (by rw [mc_recs F7.out R, ← hm9])
  simp only [List.set_cons_zero, List.set_cons_succ] at Y9
  have M8 : TwM w w8 q go gs gr lo lr zs os az rs := ⟨Row.keep VT7.out q8, HQ.out, VO7.out.keep q8, Row.keep VS7a.out q8, HS6.out, TwinR.mono tr8 VY.out.below⟩
  have M9 := M8.other (Y8.at mem1) (Nat.le_refl _) (mc m9).toArray
  generalize w8.setRow w.heap.size (mc m9).toArray = w9 at S9 Y9 M9
  have L9 := veil (msgAt Y9 mem1 F9.out).all
  have S10 := veil (msg_store Y9 mem0 hz.out F9.out)
  have Y10 := veil (Y9.put 0 rfl (mc m9))
  have M10 := veil (M9.other (Y9.at mem0) (by omega) (mc m9).toArray)
  have HE : Hid (mv m9 = mv (mf m zs os az rs (tf q go gs gr zs os az rs))) := veil (by
    rw [← hm9, ← HD.out, ← HO.out, ← HS.out, ← hR, ← HM0.out]
    rfl)
  have VS9 := veil S9
  rw [hR]
  clear VT7 VO7 VS7a tr8 q8 hR d1 d2 Y8 S9 Y9 M8 M9 hm9
  go_wp2_with (first
    | (refine wpList_store_of rfl (.tmp 18) (.tmp 17) rfl rfl rfl VS9.out ?_)
    | (refine wpList_load_of rfl _ rfl rfl L9.out ?_)
    | (refine wpList_store_of rfl _ _ rfl rfl rfl S10.out ?_))
  refine bodyPost_ret (ret_row rfl rfl (Y10.out.range mem0 (part_all _)) Tryd.underlying35 rfl (sizeMsg F9.out)) rfl ?_
  exact ⟨q, go, gs, gr, lo, lr, congrArg Ending.returned HE.out, M10.out, Y10.out.below⟩

set_option linter.unusedSimpArgs false in
set_option maxHeartbeats 8000000 in
theorem leftMessage_true (m : Ms) (zs : List Int) (os : List (Int × List Int)) (az : List (List Int)) (rs : List Rc) (f : Four) (w0 w : World) (q go gs gr : Nat) (lo : List Oz.El) (lr : List Rl) (F : Fine3 m) (hf : Rd4 w f zs os az rs) (hb : Bnd zs os az rs) (T : TwM w0 w q go gs gr lo lr zs os az rs) :
    Calls Tryd.prog 14 #[mv (mf m zs os az rs (tf q go gs gr zs os az rs)), mv (mf m zs os az rs f)] w fun e w' => e = .returned (.bool true) ∧ Below w.heap.size w w' := by
  have h1 : ∀ a ∈ az, a.length = 16 := fun a ha => by
    obtain ⟨i, hi⟩ := List.getElem?_of_mem ha
    exact (hf.s i a hi).1
  have h2 : ∀ r ∈ rs, ∀ x ∈ r.s, x.length = 16 := fun r hr x hx => by
    obtain ⟨i, hi⟩ := List.getElem?_of_mem hr
    obtain ⟨_, _, X⟩ := hf.r i r hi
    obtain ⟨_, _, _, xr⟩ := X.srcs
    obtain ⟨j, hj⟩ := List.getElem?_of_mem hx
    exact (xr j x hj).1
  obtain ⟨ft, hft⟩ : ∃ x, tf q go gs gr zs os az rs = x := ⟨_, rfl⟩
  have R := T.rd4 h1 h2
  have Y := ((Lay.begin w).new (mc (mf m zs os az rs (tf q go gs gr zs os az rs))) 35 rfl).new (mc (mf m zs os az rs f)) 35 (g := w.heap.size + 1) (by simp)
  have F0 := veil (msgAt Y mem1 (mf_fine F)).all
  have F1 := veil (msgAt Y mem0 (mf_fine F)).all
  have K := veil (sameMessage_true m zs os az rs (tf q go gs gr zs os az rs) f _ F (R.keep Y.below) (hf.keep Y.below) hb)
  have VY := veil Y
  have VF := veil F
  have HF := veil hf
  have HT := veil T
  have VB := veil hb
  clear Y F hf T hb R h1 h2 hft
  go_enter Tryd.func14, Tryd.ntmps14
  go_wp2_with (first
    | (refine wpList_load_of rfl (.tmp 2) rfl rfl F0.out ?_)
    | (refine wpList_load_of rfl (.tmp 3) rfl rfl F1.out ?_))
  clear F0 F1
  refine (K.out).mono ?_
  rintro e w1 ⟨rfl, qq⟩
  have VY := veil (VY.out.keep qq)
  clear qq K
  have a0 : w1.cell? ⟨w.heap.size, 3, none⟩ = some (.slice (some ⟨q, 0, none⟩) zs.length (zs.length + 4)) := (msgAt VY.out mem1 (mf_fine VF.out)).data
  have b0 : w1.cell? ⟨w.heap.size + 1, 3, none⟩ = some (.slice f.dA zs.length f.dc) := (msgAt VY.out mem0 (mf_fine VF.out)).data
  have K := veil (leftBytes_true q f.dA zs.length (zs.length + 4) f.dc zs w1 rfl VB.out.d (Row.keep HT.out.d VY.out.below) (HF.out.keep VY.out.below).d (Nat.le_refl _))
  go_wp2_with fail
  clear a0 b0
  refine (K.out).mono ?_
  rintro e w2 ⟨rfl, qq⟩
  have VY := veil (VY.out.still qq)
  clear qq K
  have a0 : w2.cell? ⟨w.heap.size, 41, none⟩ = some (.slice (some ⟨go, 0, none⟩) os.length (os.length + 4)) := (msgAt VY.out mem1 (mf_fine VF.out)).opts
  have b0 : w2.cell? ⟨w.heap.size + 1, 41, none⟩ = some (.slice f.oA os.length f.oc) := (msgAt VY.out mem0 (mf_fine VF.out)).opts
  have K := veil (leftOptions_true go lo f.oA os.length f.oc os w0 w2 rfl VB.out.o (HT.out.o.keep VY.out.below) (HF.out.keep VY.out.below).o VB.out.ob)
  go_wp2_with fail
  clear a0 b0
  refine (K.out).mono ?_
  rintro e w3 ⟨rfl, qq⟩
  have VY := veil (VY.out.keep qq)
  clear qq K
  have LA : Lay w0 w3 [(gs, 23, bv (az ++ List.replicate 4 oddV).flatten)] := ⟨fun x hx => by
    obtain rfl := List.mem_singleton.1 hx
    exact Row.keep HT.out.s VY.out.below, fun x hx => by
    obtain rfl := List.mem_singleton.1 hx
    exact HT.out.sq, by simp, (HT.out.o.keep VY.out.below).below⟩
  have a0 : w3.cell? ⟨w.heap.size, 61, none⟩ = some (.slice (some ⟨gs, 0, none⟩) az.length (az.length + 4)) := (msgAt VY.out mem1 (mf_fine VF.out)).srcs
  have b0 : w3.cell? ⟨w.heap.size + 1, 61, none⟩ = some (.slice f.sA az.length f.sc) := (msgAt VY.out mem0 (mf_fine VF.out)).srcs
  have K := veil (leftAddrs_true gs f.sA az.length f.sc az w0 w3 _ rfl VB.out.s (HF.out.keep VY.out.below).s LA mem0)
  clear LA
  go_wp2_with fail
  clear a0 b0
  refine (K.out).mono ?_
  rintro e w4 ⟨rfl, qq⟩
  have VY := veil (VY.out.keep qq)
  clear qq K
  have a0 : w4.cell? ⟨w.heap.size, 62, none⟩ = some (.slice (some ⟨gr, 0, none⟩) rs.length (rs.length + 4)) := (msgAt VY.out mem1 (mf_fine VF.out)).recs
  have b0 : w4.cell? ⟨w.heap.size + 1, 62, none⟩ = some (.slice f.rA rs.length f.rc) := (msgAt VY.out mem0 (mf_fine VF.out)).recs
  have K := veil (leftRecords_true gr lr f.rA rs.length f.rc rs w0 w4 rfl VB.out.r (HT.out.r.keep VY.out.below) (HF.out.keep VY.out.below).r VB.out.rb)
  go_wp2_with fail
  clear a0 b0
  refine (K.out).mono ?_
  rintro e w5 ⟨rfl, qq⟩
  have VY := veil (VY.out.keep qq)
  clear qq K
  go_wp2_with fail
  go_ret
  exact ⟨rfl, VY.out.below⟩

end Go.Proofs.YthkiamkhignchaaDoor.Mg
