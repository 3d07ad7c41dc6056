/-
  The map of conditions; which messages count, by the code: whatever packet and message it is handed.
  Conditions: the known addresses lie in their table; the message's options are read.
-/
import Derived.Test.YthkiamkhignchaaDoorChkA
import Derived.Maps.OwnSet
namespace Go.Proofs.YthkiamkhignchaaDoor.Ck
set_option maxRecDepth 100000
open Go.RowKit Ops Hd Oz Mg Go.Maps Go.ChangeMaps
open Ad (Knw kn kn_len kn_ok Ok mult ll sol sol_ok isMulticast_any isLinkLocal_any solicited_any unspecified_any eql_any neq_any)

/-- conditions by value -/
def zcond : Value := .agg #[.int .u8 0, .nilFunc, .nilFunc]
def condc (h : Int) (f g : FuncId) : List Value := [.int .u8 h, fnv f, fnv g]
abbrev cond (h : Int) (f g : FuncId) : Value := .agg (condc h f g).toArray

/-- a map from bytes to values -/
def Mb (w : World) (m : Nat) (es : List (Int × Value)) : Prop := ∃ arr clock, w.heap[m]? = some (.map arr clock) ∧ arr.toList.map (fun e => (e.key, e.val)) = es.map (fun p => (Value.int .u8 p.1, p.2)) ∧ ∀ p ∈ es, 0 ≤ p.1 ∧ p.1 ≤ 255
theorem Mb.lt {w : World} {m : Nat} {es : List (Int × Value)} (h : Mb w m es) : m < w.heap.size := by
  obtain ⟨_, _, hb, _⟩ := h
  exact (Array.getElem?_eq_some_iff.1 hb).1
theorem Mb.same {w w' : World} {m : Nat} {es : List (Int × Value)} (h : Mb w m es) (e : w'.heap[m]? = w.heap[m]?) : Mb w' m es := by
  obtain ⟨arr, clock, hb, r⟩ := h
  exact ⟨arr, clock, e.trans hb, r⟩
theorem Mb.ne {w : World} {m g : Nat} {es : List (Int × Value)} {t : TypeId} {cs : Array Value} (h : Mb w m es) (hr : Row w g t cs) : g ≠ m := by
  rintro rfl
  obtain ⟨_, _, hb, _⟩ := h
  unfold Row at hr
  rw [hr] at hb
  cases hb
theorem mb_new (w : World) : Mb (w.alloc (.map #[] 0)) w.heap.size [] := ⟨#[], 0, (MapKept.heap_alloc w _).1, by simp, by simp⟩
theorem byteLaw : Keyed Tryd.prog 5 := int_keyed Tryd.underlying5
theorem keyOf_byte {k : Int} (h : 0 ≤ k ∧ k ≤ 255) : keyOf Tryd.prog 5 (.int .u8 k) = some (.int .u8 k) := by
  have hw : (Lit.int .u8 k).wf = true := by simp [Lit.wf, IntKind.min, IntKind.max, IntKind.signed, IntKind.bits]; omega
  simp [keyOf, mapKey, Tryd.underlying5, hw]
theorem mb_keys {es : List (Int × Value)} {arr : Array MapEntry} (h : arr.toList.map (fun e => (e.key, e.val)) = es.map (fun p => (Value.int .u8 p.1, p.2))) (hb : ∀ p ∈ es, 0 ≤ p.1 ∧ p.1 ≤ 255) {e : MapEntry} (he : e ∈ arr.toList) : ∃ p ∈ es, e.key = .int .u8 p.1 ∧ e.val = p.2 ∧ 0 ≤ p.1 ∧ p.1 ≤ 255 := by
  have : (e.key, e.val) ∈ arr.toList.map (fun e => (e.key, e.val)) := List.mem_map_of_mem he
  rw [h, List.mem_map] at this
  obtain ⟨p, hp, e1⟩ := this
  simp only [Prod.mk.injEq] at e1
  exact ⟨p, hp, e1.1.symm, e1.2.symm, hb p hp⟩
theorem mb_law {es : List (Int × Value)} {arr : Array MapEntry} (h : arr.toList.map (fun e => (e.key, e.val)) = es.map (fun p => (Value.int .u8 p.1, p.2))) (hb : ∀ p ∈ es, 0 ≤ p.1 ∧ p.1 ≤ 255) : ∀ e ∈ arr.toList, ∃ l, keyOf Tryd.prog 5 e.key = some l := fun e he => by
  obtain ⟨p, _, hk, _, hq⟩ := mb_keys h hb he
  rw [hk]
  exact ⟨_, keyOf_byte hq⟩
theorem Mb.hit {w : World} {m : Nat} {es : List (Int × Value)} (h : Mb w m es) {k : Int} {v : Value} (hk : 0 ≤ k ∧ k ≤ 255) (hin : ∃ p ∈ es, p.1 = k) (hv : ∀ p ∈ es, p.1 = k → p.2 = v) :
    (Instr.lookup 62 (.map (some m)) (.int .u8 k) true).run Tryd.prog w = .ok (.tuple #[v, .bool true]) w := by
  obtain ⟨arr, clock, hb, he, hq⟩ := h
  rcases byteLaw.find w (keyOf_byte hk) arr.toList (mb_law he hq) with ⟨h1, h2⟩ | ⟨j, e0, h1, h2, h3⟩
  · obtain ⟨p, hp, e1⟩ := hin
    have : (Value.int .u8 p.1, p.2) ∈ arr.toList.map (fun e => (e.key, e.val)) := by rw [he]; exact List.mem_map_of_mem (f := fun p : Int × Value => (Value.int .u8 p.1, p.2)) hp
    rw [List.mem_map] at this
    obtain ⟨e, hm, e2⟩ := this
    simp only [Prod.mk.injEq] at e2
    exact absurd (e2.1.trans (by rw [e1])) (h2 e hm)
  · obtain ⟨p, hp, hk', hv', _⟩ := mb_keys he hq (List.mem_of_getElem? h2)
    rw [h3] at hk'
    injection hk' with _ hk'
    have e1 : e0.val = v := hv'.trans (hv p hp hk'.symm)
    simp [Instr.lookup, run_underlying Tryd.underlying62, MapKept.run_getObj_map hb, byteLaw.check w _ (keyOf_byte hk), h1, Result.andThen, e1]
theorem Mb.miss {w : World} {m : Nat} {es : List (Int × Value)} (h : Mb w m es) {k : Int} (hk : 0 ≤ k ∧ k ≤ 255) (hn : ∀ p ∈ es, p.1 ≠ k) :
    (Instr.lookup 62 (.map (some m)) (.int .u8 k) true).run Tryd.prog w = .ok (.tuple #[zcond, .bool false]) w := by
  obtain ⟨arr, clock, hb, he, hq⟩ := h
  have hz : (zeroValue 60).run Tryd.prog w = .ok zcond w := by kernel_rfl
  rcases byteLaw.find w (keyOf_byte hk) arr.toList (mb_law he hq) with ⟨h1, h2⟩ | ⟨j, e0, h1, h2, h3⟩
  · simp [Instr.lookup, run_underlying Tryd.underlying62, MapKept.run_getObj_map hb, byteLaw.check w _ (keyOf_byte hk), h1, Result.andThen, hz]
  · obtain ⟨p, hp, hk', _, _⟩ := mb_keys he hq (List.mem_of_getElem? h2)
    rw [h3] at hk'
    injection hk' with _ hk'
    exact absurd hk'.symm (hn p hp)
theorem Mb.more {w : World} {m : Nat} {es : List (Int × Value)} (h : Mb w m es) {k : Int} (v : Value) (hk : 0 ≤ k ∧ k ≤ 255) (hn : ∀ p ∈ es, p.1 ≠ k) :
    ∃ w', (Instr.mapUpdate 62 (.map (some m)) (.int .u8 k) v).run Tryd.prog w = .ok () w' ∧ Mb w' m (es ++ [(k, v)]) ∧ w.grownBy w' (some m) := by
  obtain ⟨arr, clock, hb, he, hq⟩ := h
  rcases byteLaw.find w (keyOf_byte hk) arr.toList (mb_law he hq) with ⟨h1, h2⟩ | ⟨j, e0, h1, h2, h3⟩
  · refine ⟨_, by simp [Instr.mapUpdate, run_underlying Tryd.underlying62, MapKept.run_getObj_map hb, byteLaw.check w false (keyOf_byte hk), h1, MapKept.run_setObj_map _ hb, Result.andThen]; rfl, ⟨arr.push ⟨.int .u8 k, v, clock⟩, clock + 1, heap_setBlock_same hb _, ?_, ?_⟩, ⟨rfl, rfl, rfl, by simp [setBlock], fun i _ hi => heap_setBlock_other hb _ (fun e => hi (by rw [e]))⟩⟩
    · simp only [Array.toList_push, List.map_append, he, List.map_cons, List.map_nil]
    · intro p hp
      simp only [List.mem_append, List.mem_singleton] at hp
      rcases hp with hp | rfl
      · exact hq p hp
      · exact hk
  · obtain ⟨p, hp, hk', _, _⟩ := mb_keys he hq (List.mem_of_getElem? h2)
    rw [h3] at hk'
    injection hk' with _ hk'
    exact absurd hk'.symm (hn p hp)

theorem wpList_insert_of {P : Program} {w w' : World} {ops : Array Oper} {rest : List Oper} {o : Oper} {a : Act} {Q : Exit → Act → World → Prop} {t : TypeId} {m k v : Value} (hw : Region.wanted o (yielded ops a.tmps) = true) (x y z : Operand)
    (ho : o.op = .insert t x y z) (hx : a.eval x = m) (hy : a.eval y = k) (hz : a.eval z = v) (hrun : (Instr.mapUpdate t m k v).run P w = .ok () w') (h : wpList P ops Q rest (a.put o.dst undef) w') : wpList P ops Q (o :: rest) a w := by
  refine wpList_wanted hw fun K hK => ?_
  have hK' := hK _ w' h
  unfold Oper.wp execOp
  simp only [ho, hx, hy, hz, hrun, Sem.run_bind, Sem.run_pure, Result.andThen_ok]
  simpa [Oper.upon] using hK'
theorem wpList_lookup_of {P : Program} {w w' : World} {ops : Array Oper} {rest : List Oper} {o : Oper} {a : Act} {Q : Exit → Act → World → Prop} {t : TypeId} {m k v : Value} {c : Bool} (hw : Region.wanted o (yielded ops a.tmps) = true) (x y : Operand)
    (ho : o.op = .lookup t x y c) (hx : a.eval x = m) (hy : a.eval y = k) (hrun : (Instr.lookup t m k c).run P w = .ok v w') (h : wpList P ops Q rest (a.put o.dst v) w') : wpList P ops Q (o :: rest) a w := by
  refine wpList_wanted hw fun K hK => ?_
  have hK' := hK _ w' h
  unfold Oper.wp execOp
  simp only [ho, hx, hy, hrun, Sem.run_bind, Sem.run_pure, Result.andThen_ok]
  simpa [Oper.upon] using hK'

/-- what is asked of each kind -/
def seven : List (Int × Value) := [(130, cond 1 39 40), (133, cond 255 41 42), (134, cond 255 39 43), (135, cond 255 41 44), (136, cond 255 41 45), (137, cond 255 39 46), (143, cond 1 47 40)]

set_option maxHeartbeats 4000000 in
theorem kinds_any (w : World) : Calls Tryd.prog 25 #[] w fun e w' => e = .returned (.map (some w.heap.size)) ∧ Mb w' w.heap.size seven ∧ Below w.heap.size w w' := by
  have M0 := mb_new w
  have q0 := below_new w (.map #[] 0)
  obtain ⟨w1, h1, M1, g1⟩ := M0.more (cond 1 39 40) (k := 130) (by omega) (by simp)
  obtain ⟨w2, h2, M2, g2⟩ := M1.more (cond 255 41 42) (k := 133) (by omega) (by simp)
  obtain ⟨w3, h3, M3, g3⟩ := M2.more (cond 255 39 43) (k := 134) (by omega) (by simp)
  obtain ⟨w4, h4, M4, g4⟩ := M3.more (cond 255 41 44) (k := 135) (by omega) (by simp)
  obtain ⟨w5, h5, M5, g5⟩ := M4.more (cond 255 41 45) (k := 136) (by omega) (by simp)
  obtain ⟨w6, h6, M6, g6⟩ := M5.more (cond 255 39 46) (k := 137) (by omega) (by simp)
  obtain ⟨w7, h7, M7, g7⟩ := M6.more (cond 1 47 40) (k := 143) (by omega) (by simp)
  have s0 : w.heap.size ≤ (w.alloc (.map #[] 0)).heap.size := by simp
  have q1 := below_gb q0 g1 s0 (Nat.le_refl _)
  have q2 := below_gb q1 g2 q1.size (Nat.le_refl _)
  have q3 := below_gb q2 g3 q2.size (Nat.le_refl _)
  have q4 := below_gb q3 g4 q3.size (Nat.le_refl _)
  have q5 := below_gb q4 g5 q4.size (Nat.le_refl _)
  have q6 := below_gb q5 g6 q5.size (Nat.le_refl _)
  have q7 := below_gb q6 g7 q6.size (Nat.le_refl _)
  have H0 : Hid ((Instr.makeMap 62 none).run Tryd.prog w = .ok (.map (some w.heap.size)) (w.alloc (.map #[] 0))) := veil (by kernel_rfl)
  have VM := veil M7
  have VQ := veil q7
  have H1 := veil h1
  have H2 := veil h2
  have H3 := veil h3
  have H4 := veil h4
  have H5 := veil h5
  have H6 := veil h6
  have H7 := veil h7
  clear M0 M1 M2 M3 M4 M5 M6 M7 q0 q1 q2 q3 q4 q5 q6 q7 g1 g2 g3 g4 g5 g6 g7 h1 h2 h3 h4 h5 h6 h7 s0
  have B1 : ∀ u, (Instr.build 60 #[(0, .int .u8 1), (1, fnv 39), (2, fnv 40)]).run Tryd.prog u = .ok (cond 1 39 40) u := fun u => by kernel_rfl
  have B2 : ∀ u, (Instr.build 60 #[(0, .int .u8 255), (1, fnv 41), (2, fnv 42)]).run Tryd.prog u = .ok (cond 255 41 42) u := fun u => by kernel_rfl
  have B3 : ∀ u, (Instr.build 60 #[(0, .int .u8 255), (1, fnv 39), (2, fnv 43)]).run Tryd.prog u = .ok (cond 255 39 43) u := fun u => by kernel_rfl
  have B4 : ∀ u, (Instr.build 60 #[(0, .int .u8 255), (1, fnv 41), (2, fnv 44)]).run Tryd.prog u = .ok (cond 255 41 44) u := fun u => by kernel_rfl
  have B5 : ∀ u, (Instr.build 60 #[(0, .int .u8 255), (1, fnv 41), (2, fnv 45)]).run Tryd.prog u = .ok (cond 255 41 45) u := fun u => by kernel_rfl
  have B6 : ∀ u, (Instr.build 60 #[(0, .int .u8 255), (1, fnv 39), (2, fnv 46)]).run Tryd.prog u = .ok (cond 255 39 46) u := fun u => by kernel_rfl
  have B7 : ∀ u, (Instr.build 60 #[(0, .int .u8 1), (1, fnv 47), (2, fnv 40)]).run Tryd.prog u = .ok (cond 1 47 40) u := fun u => by kernel_rfl
  have VB := veil (And.intro B1 (And.intro B2 (And.intro B3 (And.intro B4 (And.intro B5 (And.intro B6 B7))))))
  clear B1 B2 B3 B4 B5 B6 B7
  go_enter Tryd.func25, Tryd.ntmps25
  go_wp2_with (first
    | (refine wpList_value_of rfl (Instr.makeMap 62 none) rfl H0.out ?_)
    | (refine wpList_build_of rfl _ _ rfl _ (by simp [Act.eval]; rfl) (VB.out.1 _) ?_)
    | (refine wpList_build_of rfl _ _ rfl _ (by simp [Act.eval]; rfl) (VB.out.2.1 _) ?_)
    | (refine wpList_build_of rfl _ _ rfl _ (by simp [Act.eval]; rfl) (VB.out.2.2.1 _) ?_)
    | (refine wpList_build_of rfl _ _ rfl _ (by simp [Act.eval]; rfl) (VB.out.2.2.2.1 _) ?_)
    | (refine wpList_build_of rfl _ _ rfl _ (by simp [Act.eval]; rfl) (VB.out.2.2.2.2.1 _) ?_)
    | (refine wpList_build_of rfl _ _ rfl _ (by simp [Act.eval]; rfl) (VB.out.2.2.2.2.2.1 _) ?_)
    | (refine wpList_build_of rfl _ _ rfl _ (by simp [Act.eval]; rfl) (VB.out.2.2.2.2.2.2 _) ?_)
    | (refine wpList_insert_of rfl _ _ _ rfl rfl rfl rfl H1.out ?_)
    | (refine wpList_insert_of rfl _ _ _ rfl rfl rfl rfl H2.out ?_)
    | (refine wpList_insert_of rfl _ _ _ rfl rfl rfl rfl H3.out ?_)
    | (refine wpList_insert_of rfl _ _ _ rfl rfl rfl rfl H4.out ?_)
    | (refine wpList_insert_of rfl _ _ _ rfl rfl rfl rfl H5.out ?_)
    | (refine wpList_insert_of rfl _ _ _ rfl rfl rfl rfl H6.out ?_)
    | (refine wpList_insert_of rfl _ _ _ rfl rfl rfl rfl H7.out ?_))
  go_ret
  exact ⟨rfl, VM.out, VQ.out⟩

/-- one lookup as one step of a region that draws -/
theorem wp_lookup_of {P : Program} {o : Oper} {a : Act} {w w' : World} {K : Act → World → Prop} {Q : Exit → Act → World → Prop} {t : TypeId} {c : Bool} {m k v : Value} (x y : Operand)
    (ho : o.op = .lookup t x y c) (hx : a.eval x = m) (hy : a.eval y = k) (hrun : (Instr.lookup t m k c).run P w = .ok v w') (h : K (a.put o.dst v) w') : Oper.wp P o a w K Q := by
  unfold Oper.wp execOp
  simp only [ho, hx, hy, hrun, Sem.run_bind, Sem.run_pure, Result.andThen_ok]
  simpa [Oper.upon] using h
theorem sizeCond : (Tryd.prog.info? 60).map (·.size) = some 3 := by kernel_rfl
theorem cond_store {w0 w : World} {L : List Blk} {g : Nat} {t : TypeId} {cs : List Value} {a b c : Value} (h : Lay w0 w L) (hm : (g, t, cs) ∈ L) (hc : cs.length = 3) (h1 : a.oneCell' = true) (h2 : b.oneCell' = true) (h3 : c.oneCell' = true) :
    (Instr.storeAt 60 (.pointer (some ⟨g, 0, none⟩)) (.agg #[a, b, c])).run Tryd.prog w = .ok () (w.setRow g #[a, b, c]) :=
  store_all (vs := [a, b, c]) (h.at hm) (by rw [hc]; rfl) (by rw [sizeCond]; rfl) (by simp [h1, h2, h3])

/-- a packet and a message, and what is asked of it -/
def Three (w wx : World) (g : Nat) (a b c : Value) (k : Pk) (v : Value) (m : Ms) : Prop := Kw w wx [(g, 60, [a, b, c]), (w.heap.size + 1, 35, mc m), (w.heap.size, 30, pc k v)]

theorem mb_keep {w w' : World} {g : Nat} {es : List (Int × Value)} (h : Mb w g es) (q : Below w.heap.size w w') : Mb w' g es := h.same (q.block g h.lt)

section
variable (k : Pk) (v : Value) (m : Ms) (os : List (Int × List Int)) (w : World)

set_option linter.unusedSimpArgs false in
set_option maxHeartbeats 4000000 in
theorem valid_none (hk : Knw w) (G : Gd k m) (hO : Op1 w m.opts os) (hn : ∀ p ∈ seven, p.1 ≠ m.kind) : Calls Tryd.prog 11 #[pv k v, mv m] w fun e w' => e = .returned (.bool true) ∧ Below w.heap.size w w' := by
  have M := veil (two_new hk k v m)
  have VG := veil G
  have HO := veil hO
  obtain ⟨ca, hca⟩ : ∃ x, Value.int .u8 0 = x := ⟨_, rfl⟩
  obtain ⟨cb, hcb⟩ : ∃ x, Value.nilFunc = x := ⟨_, rfl⟩
  obtain ⟨cc, hcc⟩ : ∃ x, Value.nilFunc = x := ⟨_, rfl⟩
  have ONE : Hid (ca.oneCell' = true ∧ cb.oneCell' = true ∧ cc.oneCell' = true) := veil (by rw [← hca, ← hcb, ← hcc]; exact ⟨rfl, rfl, rfl⟩)
  have HL : Hid (∀ (x : World) (g : Nat), Mb x g seven → (Instr.lookup 62 (.map (some g)) (.int .u8 m.kind) true).run Tryd.prog x = .ok (.tuple #[.agg #[ca, cb, cc], .bool false]) x) := veil (fun x g h => by rw [← hca, ← hcb, ← hcc]; exact h.miss G.kd hn)
  clear hca hcb hcc hn
  clear hk G hO
  go_enter Tryd.func11, Tryd.ntmps11
  go_upto_region 1 with fail
  generalize (w.alloc (.cells (pc k v).toArray 30)).alloc (.cells (mc m).toArray 35) = w1 at *
  go_cut [5, 6] from 7 to 13 (fun p s wx => ∃ gc : Nat, p = .pointer (some ⟨gc, 0, none⟩) ∧ s = .bool false ∧ Hid (Kw w wx [(gc, 60, [ca, cb, cc]), (w.heap.size + 1, 35, mc m), (w.heap.size, 30, pc k v)]))
  case first =>
    have M := veil M.out.drew
    have MK : Hid (∀ (x : World) (L : List Blk), Kw w x (L ++ [(w.heap.size + 1, 35, mc m), (w.heap.size, 30, pc k v)]) → x.cell? ⟨w.heap.size + 1, 0, none⟩ = some (.int .u8 m.kind)) := veil (fun x L h => h.lay.look (List.mem_append_right _ mem0) (mc_head 0 _ rfl))
    refine wp_region_noPanic ?_
    refine wp_region_held_drew (S := (fun w' => w'.cell? ⟨w.heap.size + 1, 0, none⟩ = some (.int .u8 m.kind))) (by kernel_rfl) (MK.out _ [] M.out) (fun hHeld => ?_)
    refine wpAnyH_take (i := 1) (v := ?_) (by rfl) (by kernel_rfl) (by kernel_rfl) (by kernel_rfl) (fun _ _ _ h => h) (Or.inl ⟨by rfl, ?_⟩) hHeld ?_
    rotate_left
    · intro w' hSw
      (try dsimp only at hSw)
      simp only [List.getElem_toArray, List.getElem_cons_zero, List.getElem_cons_succ]
      go_simp
      all_goals (try with_reducible rfl)
    try simp only [Act.put, List.setIfInBounds_toArray, List.set_cons_zero, List.set_cons_succ, List.getElem_toArray, List.getElem_cons_zero, List.getElem_cons_succ]
    refine wpAnyH_take (i := 2) (v := ?_) (by rfl) (by kernel_rfl) (by kernel_rfl) (by kernel_rfl) (fun _ _ _ h => h) (Or.inl ⟨by rfl, ?_⟩) hHeld ?_
    rotate_left
    · intro w' hSw
      (try dsimp only at hSw)
      simp only [List.getElem_toArray, List.getElem_cons_zero, List.getElem_cons_succ]
      go_simp
      all_goals (try with_reducible rfl)
    try simp only [Act.put, List.setIfInBounds_toArray, List.set_cons_zero, List.set_cons_succ, List.getElem_toArray, List.getElem_cons_zero, List.getElem_cons_succ]
    refine wpAnyH_ready (rs := [0, 7]) (by kernel_rfl) (by simp) ?_
    refine AllReadyH.cons (by rfl) (fun K hK => ?_) (AllReadyH.cons (by rfl) (fun K hK => ?_) AllReadyH.nil)
    · skip
      simp only [List.getElem_toArray, List.getElem_cons_zero, List.getElem_cons_succ]
      go_simp
      refine (kinds_any _).mono ?_
      rintro e x ⟨rfl, mb, q⟩
      have M1 := veil (M.out.keep q)
      have HB := veil mb
      clear mb q
      (try dsimp only)
      refine hK.out _ _ (MK.out _ [] M1.out) (fun hHeld => ?_)
      clear hK K
      try simp only [Act.put, List.setIfInBounds_toArray, List.set_cons_zero, List.set_cons_succ, List.getElem_toArray, List.getElem_cons_zero, List.getElem_cons_succ]
      refine wpAnyH_ready (rs := [3, 7]) (by kernel_rfl) (by simp) ?_
      refine AllReadyH.cons (by rfl) (fun K hK => ?_) (AllReadyH.cons (by rfl) (fun K hK => ?_) AllReadyH.nil)
      · skip
        simp only [List.getElem_toArray, List.getElem_cons_zero, List.getElem_cons_succ]
        refine wp_lookup_of (.tmp 8) (.tmp 10) rfl rfl rfl (HL.out _ _ HB.out) ?_
        (try dsimp only)
        refine hK.out _ _ (MK.out _ [] M1.out) (fun hHeld => ?_)
        clear hK K
        try simp only [Act.put, List.setIfInBounds_toArray, List.set_cons_zero, List.set_cons_succ, List.getElem_toArray, List.getElem_cons_zero, List.getElem_cons_succ]
        refine wpAnyH_take (i := 4) (v := ?_) (by rfl) (by kernel_rfl) (by kernel_rfl) (by kernel_rfl) (fun _ _ _ h => h) (Or.inl ⟨by rfl, ?_⟩) hHeld ?_
        rotate_left
        · intro w' hSw
          (try dsimp only at hSw)
          simp only [List.getElem_toArray, List.getElem_cons_zero, List.getElem_cons_succ]
          go_simp
          all_goals (try with_reducible rfl)
        try simp only [Act.put, List.setIfInBounds_toArray, List.set_cons_zero, List.set_cons_succ, List.getElem_toArray, List.getElem_cons_zero, List.getElem_cons_succ]
        refine wpAnyH_take (i := 5) (v := ?_) (by rfl) (by kernel_rfl) (by kernel_rfl) (by kernel_rfl) (fun _ _ _ h => h) (Or.inl ⟨by rfl, ?_⟩) hHeld ?_
        rotate_left
        · intro w' hSw
          (try dsimp only at hSw)
          simp only [List.getElem_toArray, List.getElem_cons_zero, List.getElem_cons_succ]
          go_simp
          all_goals (try with_reducible rfl)
        try simp only [Act.put, List.setIfInBounds_toArray, List.set_cons_zero, List.set_cons_succ, List.getElem_toArray, List.getElem_cons_zero, List.getElem_cons_succ]
        refine wpAnyH_take (i := 6) (v := ?_) (by rfl) (by kernel_rfl) (by kernel_rfl) (by kernel_rfl) (fun _ _ _ h => h) (Or.inl ⟨by rfl, ?_⟩) hHeld ?_
        rotate_left
        · intro w' hSw
          (try dsimp only at hSw)
          simp only [List.getElem_toArray, List.getElem_cons_zero, List.getElem_cons_succ]
          go_simp
          all_goals (try with_reducible rfl)
        try simp only [Act.put, List.setIfInBounds_toArray, List.set_cons_zero, List.set_cons_succ, List.getElem_toArray, List.getElem_cons_zero, List.getElem_cons_succ]
        refine wpAnyH_ready (rs := [7]) (by kernel_rfl) (by simp) ?_
        refine AllReadyH.cons (by rfl) (fun K hK => ?_) AllReadyH.nil
        simp only [List.getElem_toArray, List.getElem_cons_zero, List.getElem_cons_succ]
        go_simp
        have M2 := veil (M1.out.new [.int .u8 0, .nilFunc, .nilFunc] 60 rfl)
        (try dsimp only)
        refine hK.out _ _ (MK.out _ [_] M2.out) (fun hHeld => ?_)
        clear hK K
        try simp only [Act.put, List.setIfInBounds_toArray, List.set_cons_zero, List.set_cons_succ, List.getElem_toArray, List.getElem_cons_zero, List.getElem_cons_succ]
        refine wpAnyH_ready (rs := [8]) (by kernel_rfl) (by simp) ?_
        refine AllReadyH.cons (by rfl) (fun K hK => ?_) AllReadyH.nil
        simp only [List.getElem_toArray, List.getElem_cons_zero, List.getElem_cons_succ]
        have T := veil (cond_store (a := ca) (b := cb) (c := cc) M2.out.lay mem0 rfl ONE.out.1 ONE.out.2.1 ONE.out.2.2)
        refine wp_store_of (.tmp 5) (.tmp 12) rfl rfl rfl T.out ?_
        have N := M2.out.put 0 rfl [ca, cb, cc]
        simp only [List.set_cons_zero] at N
        replace N := veil N
        clear T
        (try dsimp only)
        refine hK.out _ _ (MK.out _ [_] N.out) (fun hHeld => ?_)
        clear hK K
        try simp only [Act.put, List.setIfInBounds_toArray, List.set_cons_zero, List.set_cons_succ, List.getElem_toArray, List.getElem_cons_zero, List.getElem_cons_succ]
        refine wpAnyH_take (i := 9) (v := ?_) (by rfl) (by kernel_rfl) (by kernel_rfl) (by kernel_rfl) (fun _ _ _ h => h) (Or.inl ⟨by rfl, ?_⟩) hHeld ?_
        rotate_left
        · intro w' hSw
          (try dsimp only at hSw)
          simp only [List.getElem_toArray, List.getElem_cons_zero, List.getElem_cons_succ]
          go_simp
          all_goals (try with_reducible rfl)
        try simp only [Act.put, List.setIfInBounds_toArray, List.set_cons_zero, List.set_cons_succ, List.getElem_toArray, List.getElem_cons_zero, List.getElem_cons_succ]
        refine wpAnyH_done (by kernel_rfl) ?_ _
        refine NoPanic.normal ?_
        clear hHeld
        (try go_wp2_with fail)
        go_meet
        exact ⟨_, rfl, rfl, N⟩
      · skip
        simp only [List.getElem_toArray, List.getElem_cons_zero, List.getElem_cons_succ]
        go_simp
        have M2 := veil (M1.out.new [.int .u8 0, .nilFunc, .nilFunc] 60 rfl)
        have HB := veil (mb_keep HB.out (below_new _ (.cells #[.int .u8 0, .nilFunc, .nilFunc] 60)))
        (try dsimp only)
        refine hK.out _ _ (MK.out _ [_] M2.out) (fun hHeld => ?_)
        clear hK K
        try simp only [Act.put, List.setIfInBounds_toArray, List.set_cons_zero, List.set_cons_succ, List.getElem_toArray, List.getElem_cons_zero, List.getElem_cons_succ]
        refine wpAnyH_ready (rs := [3]) (by kernel_rfl) (by simp) ?_
        refine AllReadyH.cons (by rfl) (fun K hK => ?_) AllReadyH.nil
        simp only [List.getElem_toArray, List.getElem_cons_zero, List.getElem_cons_succ]
        refine wp_lookup_of (.tmp 8) (.tmp 10) rfl rfl rfl (HL.out _ _ HB.out) ?_
        (try dsimp only)
        refine hK.out _ _ (MK.out _ [_] M2.out) (fun hHeld => ?_)
        clear hK K
        try simp only [Act.put, List.setIfInBounds_toArray, List.set_cons_zero, List.set_cons_succ, List.getElem_toArray, List.getElem_cons_zero, List.getElem_cons_succ]
        refine wpAnyH_take (i := 4) (v := ?_) (by rfl) (by kernel_rfl) (by kernel_rfl) (by kernel_rfl) (fun _ _ _ h => h) (Or.inl ⟨by rfl, ?_⟩) hHeld ?_
        rotate_left
        · intro w' hSw
          (try dsimp only at hSw)
          simp only [List.getElem_toArray, List.getElem_cons_zero, List.getElem_cons_succ]
          go_simp
          all_goals (try with_reducible rfl)
        try simp only [Act.put, List.setIfInBounds_toArray, List.set_cons_zero, List.set_cons_succ, List.getElem_toArray, List.getElem_cons_zero, List.getElem_cons_succ]
        refine wpAnyH_take (i := 5) (v := ?_) (by rfl) (by kernel_rfl) (by kernel_rfl) (by kernel_rfl) (fun _ _ _ h => h) (Or.inl ⟨by rfl, ?_⟩) hHeld ?_
        rotate_left
        · intro w' hSw
          (try dsimp only at hSw)
          simp only [List.getElem_toArray, List.getElem_cons_zero, List.getElem_cons_succ]
          go_simp
          all_goals (try with_reducible rfl)
        try simp only [Act.put, List.setIfInBounds_toArray, List.set_cons_zero, List.set_cons_succ, List.getElem_toArray, List.getElem_cons_zero, List.getElem_cons_succ]
        refine wpAnyH_take (i := 6) (v := ?_) (by rfl) (by kernel_rfl) (by kernel_rfl) (by kernel_rfl) (fun _ _ _ h => h) (Or.inl ⟨by rfl, ?_⟩) hHeld ?_
        rotate_left
        · intro w' hSw
          (try dsimp only at hSw)
          simp only [List.getElem_toArray, List.getElem_cons_zero, List.getElem_cons_succ]
          go_simp
          all_goals (try with_reducible rfl)
        try simp only [Act.put, List.setIfInBounds_toArray, List.set_cons_zero, List.set_cons_succ, List.getElem_toArray, List.getElem_cons_zero, List.getElem_cons_succ]
        refine wpAnyH_ready (rs := [8]) (by kernel_rfl) (by simp) ?_
        refine AllReadyH.cons (by rfl) (fun K hK => ?_) AllReadyH.nil
        simp only [List.getElem_toArray, List.getElem_cons_zero, List.getElem_cons_succ]
        have T := veil (cond_store (a := ca) (b := cb) (c := cc) M2.out.lay mem0 rfl ONE.out.1 ONE.out.2.1 ONE.out.2.2)
        refine wp_store_of (.tmp 5) (.tmp 12) rfl rfl rfl T.out ?_
        have N := M2.out.put 0 rfl [ca, cb, cc]
        simp only [List.set_cons_zero] at N
        replace N := veil N
        clear T
        (try dsimp only)
        refine hK.out _ _ (MK.out _ [_] N.out) (fun hHeld => ?_)
        clear hK K
        try simp only [Act.put, List.setIfInBounds_toArray, List.set_cons_zero, List.set_cons_succ, List.getElem_toArray, List.getElem_cons_zero, List.getElem_cons_succ]
        refine wpAnyH_take (i := 9) (v := ?_) (by rfl) (by kernel_rfl) (by kernel_rfl) (by kernel_rfl) (fun _ _ _ h => h) (Or.inl ⟨by rfl, ?_⟩) hHeld ?_
        rotate_left
        · intro w' hSw
          (try dsimp only at hSw)
          simp only [List.getElem_toArray, List.getElem_cons_zero, List.getElem_cons_succ]
          go_simp
          all_goals (try with_reducible rfl)
        try simp only [Act.put, List.setIfInBounds_toArray, List.set_cons_zero, List.set_cons_succ, List.getElem_toArray, List.getElem_cons_zero, List.getElem_cons_succ]
        refine wpAnyH_done (by kernel_rfl) ?_ _
        refine NoPanic.normal ?_
        clear hHeld
        (try go_wp2_with fail)
        go_meet
        exact ⟨_, rfl, rfl, N⟩
    · skip
      simp only [List.getElem_toArray, List.getElem_cons_zero, List.getElem_cons_succ]
      go_simp
      have M1 := veil (M.out.new [.int .u8 0, .nilFunc, .nilFunc] 60 rfl)
      (try dsimp only)
      refine hK.out _ _ (MK.out _ [_] M1.out) (fun hHeld => ?_)
      clear hK K
      try simp only [Act.put, List.setIfInBounds_toArray, List.set_cons_zero, List.set_cons_succ, List.getElem_toArray, List.getElem_cons_zero, List.getElem_cons_succ]
      refine wpAnyH_ready (rs := [0]) (by kernel_rfl) (by simp) ?_
      refine AllReadyH.cons (by rfl) (fun K hK => ?_) AllReadyH.nil
      simp only [List.getElem_toArray, List.getElem_cons_zero, List.getElem_cons_succ]
      go_simp
      refine (kinds_any _).mono ?_
      rintro e x ⟨rfl, mb, q⟩
      have M2 := veil (M1.out.keep q)
      have HB := veil mb
      clear mb q
      (try dsimp only)
      refine hK.out _ _ (MK.out _ [_] M2.out) (fun hHeld => ?_)
      clear hK K
      try simp only [Act.put, List.setIfInBounds_toArray, List.set_cons_zero, List.set_cons_succ, List.getElem_toArray, List.getElem_cons_zero, List.getElem_cons_succ]
      refine wpAnyH_ready (rs := [3]) (by kernel_rfl) (by simp) ?_
      refine AllReadyH.cons (by rfl) (fun K hK => ?_) AllReadyH.nil
      simp only [List.getElem_toArray, List.getElem_cons_zero, List.getElem_cons_succ]
      refine wp_lookup_of (.tmp 8) (.tmp 10) rfl rfl rfl (HL.out _ _ HB.out) ?_
      (try dsimp only)
      refine hK.out _ _ (MK.out _ [_] M2.out) (fun hHeld => ?_)
      clear hK K
      try simp only [Act.put, List.setIfInBounds_toArray, List.set_cons_zero, List.set_cons_succ, List.getElem_toArray, List.getElem_cons_zero, List.getElem_cons_succ]
      refine wpAnyH_take (i := 4) (v := ?_) (by rfl) (by kernel_rfl) (by kernel_rfl) (by kernel_rfl) (fun _ _ _ h => h) (Or.inl ⟨by rfl, ?_⟩) hHeld ?_
      rotate_left
      · intro w' hSw
        (try dsimp only at hSw)
        simp only [List.getElem_toArray, List.getElem_cons_zero, List.getElem_cons_succ]
        go_simp
        all_goals (try with_reducible rfl)
      try simp only [Act.put, List.setIfInBounds_toArray, List.set_cons_zero, List.set_cons_succ, List.getElem_toArray, List.getElem_cons_zero, List.getElem_cons_succ]
      refine wpAnyH_take (i := 5) (v := ?_) (by rfl) (by kernel_rfl) (by kernel_rfl) (by kernel_rfl) (fun _ _ _ h => h) (Or.inl ⟨by rfl, ?_⟩) hHeld ?_
      rotate_left
      · intro w' hSw
        (try dsimp only at hSw)
        simp only [List.getElem_toArray, List.getElem_cons_zero, List.getElem_cons_succ]
        go_simp
        all_goals (try with_reducible rfl)
      try simp only [Act.put, List.setIfInBounds_toArray, List.set_cons_zero, List.set_cons_succ, List.getElem_toArray, List.getElem_cons_zero, List.getElem_cons_succ]
      refine wpAnyH_take (i := 6) (v := ?_) (by rfl) (by kernel_rfl) (by kernel_rfl) (by kernel_rfl) (fun _ _ _ h => h) (Or.inl ⟨by rfl, ?_⟩) hHeld ?_
      rotate_left
      · intro w' hSw
        (try dsimp only at hSw)
        simp only [List.getElem_toArray, List.getElem_cons_zero, List.getElem_cons_succ]
        go_simp
        all_goals (try with_reducible rfl)
      try simp only [Act.put, List.setIfInBounds_toArray, List.set_cons_zero, List.set_cons_succ, List.getElem_toArray, List.getElem_cons_zero, List.getElem_cons_succ]
      refine wpAnyH_ready (rs := [8]) (by kernel_rfl) (by simp) ?_
      refine AllReadyH.cons (by rfl) (fun K hK => ?_) AllReadyH.nil
      simp only [List.getElem_toArray, List.getElem_cons_zero, List.getElem_cons_succ]
      have T := veil (cond_store (a := ca) (b := cb) (c := cc) M2.out.lay mem0 rfl ONE.out.1 ONE.out.2.1 ONE.out.2.2)
      refine wp_store_of (.tmp 5) (.tmp 12) rfl rfl rfl T.out ?_
      have N := M2.out.put 0 rfl [ca, cb, cc]
      simp only [List.set_cons_zero] at N
      replace N := veil N
      clear T
      (try dsimp only)
      refine hK.out _ _ (MK.out _ [_] N.out) (fun hHeld => ?_)
      clear hK K
      try simp only [Act.put, List.setIfInBounds_toArray, List.set_cons_zero, List.set_cons_succ, List.getElem_toArray, List.getElem_cons_zero, List.getElem_cons_succ]
      refine wpAnyH_take (i := 9) (v := ?_) (by rfl) (by kernel_rfl) (by kernel_rfl) (by kernel_rfl) (fun _ _ _ h => h) (Or.inl ⟨by rfl, ?_⟩) hHeld ?_
      rotate_left
      · intro w' hSw
        (try dsimp only at hSw)
        simp only [List.getElem_toArray, List.getElem_cons_zero, List.getElem_cons_succ]
        go_simp
        all_goals (try with_reducible rfl)
      try simp only [Act.put, List.setIfInBounds_toArray, List.set_cons_zero, List.set_cons_succ, List.getElem_toArray, List.getElem_cons_zero, List.getElem_cons_succ]
      refine wpAnyH_done (by kernel_rfl) ?_ _
      refine NoPanic.normal ?_
      clear hHeld
      (try go_wp2_with fail)
      go_meet
      exact ⟨_, rfl, rfl, N⟩
  case rest =>
    obtain ⟨gc, rfl, rfl, N⟩ := hcut
    go_wp2_with fail
    go_ret
    exact ⟨rfl, N.out.below⟩

set_option linter.unusedSimpArgs false in
set_option maxHeartbeats 4000000 in
theorem valid_some (hk : Knw w) (G : Gd k m) (hO : Op1 w m.opts os) (h : Int) (f g : FuncId) (a b : Bool) (hin : ∃ p ∈ seven, p.1 = m.kind) (hv : ∀ p ∈ seven, p.1 = m.kind → p.2 = cond h f g)
    (E1 : ∀ xs u, (callFunc f xs).run Tryd.prog u = .ok (.enter f xs) u) (E2 : ∀ xs u, (callFunc g xs).run Tryd.prog u = .ok (.enter g xs) u)
    (K1 : ∀ u, Knw u → Calls Tryd.prog f #[av k.s] u fun e w' => e = .returned (.bool a) ∧ Below u.heap.size u w')
    (K2 : ∀ u, Knw u → Op1 u m.opts os → Calls Tryd.prog g #[pv k v, mv m] u fun e w' => e = .returned (.bool b) ∧ Below u.heap.size u w') :
    Calls Tryd.prog 11 #[pv k v, mv m] w fun e w' => e = .returned (.bool (decide (k.hops = h) && (decide (m.code = 0) && (a && b)))) ∧ Below w.heap.size w w' := by
  have M := veil (two_new hk k v m)
  have VG := veil G
  have HO := veil hO
  have VK1 := veil K1
  have VK2 := veil K2
  have VE1 := veil E1
  have VE2 := veil E2
  obtain ⟨ca, hca⟩ : ∃ x, Value.int .u8 h = x := ⟨_, rfl⟩
  obtain ⟨cb, hcb⟩ : ∃ x, fnv f = x := ⟨_, rfl⟩
  obtain ⟨cc, hcc⟩ : ∃ x, fnv g = x := ⟨_, rfl⟩
  have ONE : Hid (ca.oneCell' = true ∧ cb.oneCell' = true ∧ cc.oneCell' = true) := veil (by rw [← hca, ← hcb, ← hcc]; exact ⟨rfl, rfl, rfl⟩)
  have HL : Hid (∀ (x : World) (g : Nat), Mb x g seven → (Instr.lookup 62 (.map (some g)) (.int .u8 m.kind) true).run Tryd.prog x = .ok (.tuple #[.agg #[ca, cb, cc], .bool true]) x) := veil (fun x gm hb => by rw [← hca, ← hcb, ← hcc]; exact hb.hit G.kd hin hv)
  have HC := veil (And.intro hca (And.intro hcb hcc))
  clear hca hcb hcc hin hv K1 K2 E1 E2
  clear hk G hO
  go_enter Tryd.func11, Tryd.ntmps11
  go_upto_region 1 with fail
  generalize (w.alloc (.cells (pc k v).toArray 30)).alloc (.cells (mc m).toArray 35) = w1 at *
  go_cut [5, 6] from 7 to 13 (fun p s wx => ∃ gc : Nat, p = .pointer (some ⟨gc, 0, none⟩) ∧ s = .bool true ∧ Hid (Kw w wx [(gc, 60, [ca, cb, cc]), (w.heap.size + 1, 35, mc m), (w.heap.size, 30, pc k v)]))
  case first =>
    have M := veil M.out.drew
    have MK : Hid (∀ (x : World) (L : List Blk), Kw w x (L ++ [(w.heap.size + 1, 35, mc m), (w.heap.size, 30, pc k v)]) → x.cell? ⟨w.heap.size + 1, 0, none⟩ = some (.int .u8 m.kind)) := veil (fun x L h => h.lay.look (List.mem_append_right _ mem0) (mc_head 0 _ rfl))
    refine wp_region_noPanic ?_
    refine wp_region_held_drew (S := (fun w' => w'.cell? ⟨w.heap.size + 1, 0, none⟩ = some (.int .u8 m.kind))) (by kernel_rfl) (MK.out _ [] M.out) (fun hHeld => ?_)
    refine wpAnyH_take (i := 1) (v := ?_) (by rfl) (by kernel_rfl) (by kernel_rfl) (by kernel_rfl) (fun _ _ _ h => h) (Or.inl ⟨by rfl, ?_⟩) hHeld ?_
    rotate_left
    · intro w' hSw
      (try dsimp only at hSw)
      simp only [List.getElem_toArray, List.getElem_cons_zero, List.getElem_cons_succ]
      go_simp
      all_goals (try with_reducible rfl)
    try simp only [Act.put, List.setIfInBounds_toArray, List.set_cons_zero, List.set_cons_succ, List.getElem_toArray, List.getElem_cons_zero, List.getElem_cons_succ]
    refine wpAnyH_take (i := 2) (v := ?_) (by rfl) (by kernel_rfl) (by kernel_rfl) (by kernel_rfl) (fun _ _ _ h => h) (Or.inl ⟨by rfl, ?_⟩) hHeld ?_
    rotate_left
    · intro w' hSw
      (try dsimp only at hSw)
      simp only [List.getElem_toArray, List.getElem_cons_zero, List.getElem_cons_succ]
      go_simp
      all_goals (try with_reducible rfl)
    try simp only [Act.put, List.setIfInBounds_toArray, List.set_cons_zero, List.set_cons_succ, List.getElem_toArray, List.getElem_cons_zero, List.getElem_cons_succ]
    refine wpAnyH_ready (rs := [0, 7]) (by kernel_rfl) (by simp) ?_
    refine AllReadyH.cons (by rfl) (fun K hK => ?_) (AllReadyH.cons (by rfl) (fun K hK => ?_) AllReadyH.nil)
    · skip
      simp only [List.getElem_toArray, List.getElem_cons_zero, List.getElem_cons_succ]
      go_simp
      refine (kinds_any _).mono ?_
      rintro e x ⟨rfl, mb, q⟩
      have M1 := veil (M.out.keep q)
      have HB := veil mb
      clear mb q
      (try dsimp only)
      refine hK.out _ _ (MK.out _ [] M1.out) (fun hHeld => ?_)
      clear hK K
      try simp only [Act.put, List.setIfInBounds_toArray, List.set_cons_zero, List.set_cons_succ, List.getElem_toArray, List.getElem_cons_zero, List.getElem_cons_succ]
      refine wpAnyH_ready (rs := [3, 7]) (by kernel_rfl) (by simp) ?_
      refine AllReadyH.cons (by rfl) (fun K hK => ?_) (AllReadyH.cons (by rfl) (fun K hK => ?_) AllReadyH.nil)
      · skip
        simp only [List.getElem_toArray, List.getElem_cons_zero, List.getElem_cons_succ]
        refine wp_lookup_of (.tmp 8) (.tmp 10) rfl rfl rfl (HL.out _ _ HB.out) ?_
        (try dsimp only)
        refine hK.out _ _ (MK.out _ [] M1.out) (fun hHeld => ?_)
        clear hK K
        try simp only [Act.put, List.setIfInBounds_toArray, List.set_cons_zero, List.set_cons_succ, List.getElem_toArray, List.getElem_cons_zero, List.getElem_cons_succ]
        refine wpAnyH_take (i := 4) (v := ?_) (by rfl) (by kernel_rfl) (by kernel_rfl) (by kernel_rfl) (fun _ _ _ h => h) (Or.inl ⟨by rfl, ?_⟩) hHeld ?_
        rotate_left
        · intro w' hSw
          (try dsimp only at hSw)
          simp only [List.getElem_toArray, List.getElem_cons_zero, List.getElem_cons_succ]
          go_simp
          all_goals (try with_reducible rfl)
        try simp only [Act.put, List.setIfInBounds_toArray, List.set_cons_zero, List.set_cons_succ, List.getElem_toArray, List.getElem_cons_zero, List.getElem_cons_succ]
        refine wpAnyH_take (i := 5) (v := ?_) (by rfl) (by kernel_rfl) (by kernel_rfl) (by kernel_rfl) (fun _ _ _ h => h) (Or.inl ⟨by rfl, ?_⟩) hHeld ?_
        rotate_left
        · intro w' hSw
          (try dsimp only at hSw)
          simp only [List.getElem_toArray, List.getElem_cons_zero, List.getElem_cons_succ]
          go_simp
          all_goals (try with_reducible rfl)
        try simp only [Act.put, List.setIfInBounds_toArray, List.set_cons_zero, List.set_cons_succ, List.getElem_toArray, List.getElem_cons_zero, List.getElem_cons_succ]
        refine wpAnyH_take (i := 6) (v := ?_) (by rfl) (by kernel_rfl) (by kernel_rfl) (by kernel_rfl) (fun _ _ _ h => h) (Or.inl ⟨by rfl, ?_⟩) hHeld ?_
        rotate_left
        · intro w' hSw
          (try dsimp only at hSw)
          simp only [List.getElem_toArray, List.getElem_cons_zero, List.getElem_cons_succ]
          go_simp
          all_goals (try with_reducible rfl)
        try simp only [Act.put, List.setIfInBounds_toArray, List.set_cons_zero, List.set_cons_succ, List.getElem_toArray, List.getElem_cons_zero, List.getElem_cons_succ]
        refine wpAnyH_ready (rs := [7]) (by kernel_rfl) (by simp) ?_
        refine AllReadyH.cons (by rfl) (fun K hK => ?_) AllReadyH.nil
        simp only [List.getElem_toArray, List.getElem_cons_zero, List.getElem_cons_succ]
        go_simp
        have M2 := veil (M1.out.new [.int .u8 0, .nilFunc, .nilFunc] 60 rfl)
        (try dsimp only)
        refine hK.out _ _ (MK.out _ [_] M2.out) (fun hHeld => ?_)
        clear hK K
        try simp only [Act.put, List.setIfInBounds_toArray, List.set_cons_zero, List.set_cons_succ, List.getElem_toArray, List.getElem_cons_zero, List.getElem_cons_succ]
        refine wpAnyH_ready (rs := [8]) (by kernel_rfl) (by simp) ?_
        refine AllReadyH.cons (by rfl) (fun K hK => ?_) AllReadyH.nil
        simp only [List.getElem_toArray, List.getElem_cons_zero, List.getElem_cons_succ]
        have T := veil (cond_store (a := ca) (b := cb) (c := cc) M2.out.lay mem0 rfl ONE.out.1 ONE.out.2.1 ONE.out.2.2)
        refine wp_store_of (.tmp 5) (.tmp 12) rfl rfl rfl T.out ?_
        have N := M2.out.put 0 rfl [ca, cb, cc]
        simp only [List.set_cons_zero] at N
        replace N := veil N
        clear T
        (try dsimp only)
        refine hK.out _ _ (MK.out _ [_] N.out) (fun hHeld => ?_)
        clear hK K
        try simp only [Act.put, List.setIfInBounds_toArray, List.set_cons_zero, List.set_cons_succ, List.getElem_toArray, List.getElem_cons_zero, List.getElem_cons_succ]
        refine wpAnyH_take (i := 9) (v := ?_) (by rfl) (by kernel_rfl) (by kernel_rfl) (by kernel_rfl) (fun _ _ _ h => h) (Or.inl ⟨by rfl, ?_⟩) hHeld ?_
        rotate_left
        · intro w' hSw
          (try dsimp only at hSw)
          simp only [List.getElem_toArray, List.getElem_cons_zero, List.getElem_cons_succ]
          go_simp
          all_goals (try with_reducible rfl)
        try simp only [Act.put, List.setIfInBounds_toArray, List.set_cons_zero, List.set_cons_succ, List.getElem_toArray, List.getElem_cons_zero, List.getElem_cons_succ]
        refine wpAnyH_done (by kernel_rfl) ?_ _
        refine NoPanic.normal ?_
        clear hHeld
        (try go_wp2_with fail)
        go_meet
        exact ⟨_, rfl, rfl, N⟩
      · skip
        simp only [List.getElem_toArray, List.getElem_cons_zero, List.getElem_cons_succ]
        go_simp
        have M2 := veil (M1.out.new [.int .u8 0, .nilFunc, .nilFunc] 60 rfl)
        have HB := veil (mb_keep HB.out (below_new _ (.cells #[.int .u8 0, .nilFunc, .nilFunc] 60)))
        (try dsimp only)
        refine hK.out _ _ (MK.out _ [_] M2.out) (fun hHeld => ?_)
        clear hK K
        try simp only [Act.put, List.setIfInBounds_toArray, List.set_cons_zero, List.set_cons_succ, List.getElem_toArray, List.getElem_cons_zero, List.getElem_cons_succ]
        refine wpAnyH_ready (rs := [3]) (by kernel_rfl) (by simp) ?_
        refine AllReadyH.cons (by rfl) (fun K hK => ?_) AllReadyH.nil
        simp only [List.getElem_toArray, List.getElem_cons_zero, List.getElem_cons_succ]
        refine wp_lookup_of (.tmp 8) (.tmp 10) rfl rfl rfl (HL.out _ _ HB.out) ?_
        (try dsimp only)
        refine hK.out _ _ (MK.out _ [_] M2.out) (fun hHeld => ?_)
        clear hK K
        try simp only [Act.put, List.setIfInBounds_toArray, List.set_cons_zero, List.set_cons_succ, List.getElem_toArray, List.getElem_cons_zero, List.getElem_cons_succ]
        refine wpAnyH_take (i := 4) (v := ?_) (by rfl) (by kernel_rfl) (by kernel_rfl) (by kernel_rfl) (fun _ _ _ h => h) (Or.inl ⟨by rfl, ?_⟩) hHeld ?_
        rotate_left
        · intro w' hSw
          (try dsimp only at hSw)
          simp only [List.getElem_toArray, List.getElem_cons_zero, List.getElem_cons_succ]
          go_simp
          all_goals (try with_reducible rfl)
        try simp only [Act.put, List.setIfInBounds_toArray, List.set_cons_zero, List.set_cons_succ, List.getElem_toArray, List.getElem_cons_zero, List.getElem_cons_succ]
        refine wpAnyH_take (i := 5) (v := ?_) (by rfl) (by kernel_rfl) (by kernel_rfl) (by kernel_rfl) (fun _ _ _ h => h) (Or.inl ⟨by rfl, ?_⟩) hHeld ?_
        rotate_left
        · intro w' hSw
          (try dsimp only at hSw)
          simp only [List.getElem_toArray, List.getElem_cons_zero, List.getElem_cons_succ]
          go_simp
          all_goals (try with_reducible rfl)
        try simp only [Act.put, List.setIfInBounds_toArray, List.set_cons_zero, List.set_cons_succ, List.getElem_toArray, List.getElem_cons_zero, List.getElem_cons_succ]
        refine wpAnyH_take (i := 6) (v := ?_) (by rfl) (by kernel_rfl) (by kernel_rfl) (by kernel_rfl) (fun _ _ _ h => h) (Or.inl ⟨by rfl, ?_⟩) hHeld ?_
        rotate_left
        · intro w' hSw
          (try dsimp only at hSw)
          simp only [List.getElem_toArray, List.getElem_cons_zero, List.getElem_cons_succ]
          go_simp
          all_goals (try with_reducible rfl)
        try simp only [Act.put, List.setIfInBounds_toArray, List.set_cons_zero, List.set_cons_succ, List.getElem_toArray, List.getElem_cons_zero, List.getElem_cons_succ]
        refine wpAnyH_ready (rs := [8]) (by kernel_rfl) (by simp) ?_
        refine AllReadyH.cons (by rfl) (fun K hK => ?_) AllReadyH.nil
        simp only [List.getElem_toArray, List.getElem_cons_zero, List.getElem_cons_succ]
        have T := veil (cond_store (a := ca) (b := cb) (c := cc) M2.out.lay mem0 rfl ONE.out.1 ONE.out.2.1 ONE.out.2.2)
        refine wp_store_of (.tmp 5) (.tmp 12) rfl rfl rfl T.out ?_
        have N := M2.out.put 0 rfl [ca, cb, cc]
        simp only [List.set_cons_zero] at N
        replace N := veil N
        clear T
        (try dsimp only)
        refine hK.out _ _ (MK.out _ [_] N.out) (fun hHeld => ?_)
        clear hK K
        try simp only [Act.put, List.setIfInBounds_toArray, List.set_cons_zero, List.set_cons_succ, List.getElem_toArray, List.getElem_cons_zero, List.getElem_cons_succ]
        refine wpAnyH_take (i := 9) (v := ?_) (by rfl) (by kernel_rfl) (by kernel_rfl) (by kernel_rfl) (fun _ _ _ h => h) (Or.inl ⟨by rfl, ?_⟩) hHeld ?_
        rotate_left
        · intro w' hSw
          (try dsimp only at hSw)
          simp only [List.getElem_toArray, List.getElem_cons_zero, List.getElem_cons_succ]
          go_simp
          all_goals (try with_reducible rfl)
        try simp only [Act.put, List.setIfInBounds_toArray, List.set_cons_zero, List.set_cons_succ, List.getElem_toArray, List.getElem_cons_zero, List.getElem_cons_succ]
        refine wpAnyH_done (by kernel_rfl) ?_ _
        refine NoPanic.normal ?_
        clear hHeld
        (try go_wp2_with fail)
        go_meet
        exact ⟨_, rfl, rfl, N⟩
    · skip
      simp only [List.getElem_toArray, List.getElem_cons_zero, List.getElem_cons_succ]
      go_simp
      have M1 := veil (M.out.new [.int .u8 0, .nilFunc, .nilFunc] 60 rfl)
      (try dsimp only)
      refine hK.out _ _ (MK.out _ [_] M1.out) (fun hHeld => ?_)
      clear hK K
      try simp only [Act.put, List.setIfInBounds_toArray, List.set_cons_zero, List.set_cons_succ, List.getElem_toArray, List.getElem_cons_zero, List.getElem_cons_succ]
      refine wpAnyH_ready (rs := [0]) (by kernel_rfl) (by simp) ?_
      refine AllReadyH.cons (by rfl) (fun K hK => ?_) AllReadyH.nil
      simp only [List.getElem_toArray, List.getElem_cons_zero, List.getElem_cons_succ]
      go_simp
      refine (kinds_any _).mono ?_
      rintro e x ⟨rfl, mb, q⟩
      have M2 := veil (M1.out.keep q)
      have HB := veil mb
      clear mb q
      (try dsimp only)
      refine hK.out _ _ (MK.out _ [_] M2.out) (fun hHeld => ?_)
      clear hK K
      try simp only [Act.put, List.setIfInBounds_toArray, List.set_cons_zero, List.set_cons_succ, List.getElem_toArray, List.getElem_cons_zero, List.getElem_cons_succ]
      refine wpAnyH_ready (rs := [3]) (by kernel_rfl) (by simp) ?_
      refine AllReadyH.cons (by rfl) (fun K hK => ?_) AllReadyH.nil
      simp only [List.getElem_toArray, List.getElem_cons_zero, List.getElem_cons_succ]
      refine wp_lookup_of (.tmp 8) (.tmp 10) rfl rfl rfl (HL.out _ _ HB.out) ?_
      (try dsimp only)
      refine hK.out _ _ (MK.out _ [_] M2.out) (fun hHeld => ?_)
      clear hK K
      try simp only [Act.put, List.setIfInBounds_toArray, List.set_cons_zero, List.set_cons_succ, List.getElem_toArray, List.getElem_cons_zero, List.getElem_cons_succ]
      refine wpAnyH_take (i := 4) (v := ?_) (by rfl) (by kernel_rfl) (by kernel_rfl) (by kernel_rfl) (fun _ _ _ h => h) (Or.inl ⟨by rfl, ?_⟩) hHeld ?_
      rotate_left
      · intro w' hSw
        (try dsimp only at hSw)
        simp only [List.getElem_toArray, List.getElem_cons_zero, List.getElem_cons_succ]
        go_simp
        all_goals (try with_reducible rfl)
      try simp only [Act.put, List.setIfInBounds_toArray, List.set_cons_zero, List.set_cons_succ, List.getElem_toArray, List.getElem_cons_zero, List.getElem_cons_succ]
      refine wpAnyH_take (i := 5) (v := ?_) (by rfl) (by kernel_rfl) (by kernel_rfl) (by kernel_rfl) (fun _ _ _ h => h) (Or.inl ⟨by rfl, ?_⟩) hHeld ?_
      rotate_left
      · intro w' hSw
        (try dsimp only at hSw)
        simp only [List.getElem_toArray, List.getElem_cons_zero, List.getElem_cons_succ]
        go_simp
        all_goals (try with_reducible rfl)
      try simp only [Act.put, List.setIfInBounds_toArray, List.set_cons_zero, List.set_cons_succ, List.getElem_toArray, List.getElem_cons_zero, List.getElem_cons_succ]
      refine wpAnyH_take (i := 6) (v := ?_) (by rfl) (by kernel_rfl) (by kernel_rfl) (by kernel_rfl) (fun _ _ _ h => h) (Or.inl ⟨by rfl, ?_⟩) hHeld ?_
      rotate_left
      · intro w' hSw
        (try dsimp only at hSw)
        simp only [List.getElem_toArray, List.getElem_cons_zero, List.getElem_cons_succ]
        go_simp
        all_goals (try with_reducible rfl)
      try simp only [Act.put, List.setIfInBounds_toArray, List.set_cons_zero, List.set_cons_succ, List.getElem_toArray, List.getElem_cons_zero, List.getElem_cons_succ]
      refine wpAnyH_ready (rs := [8]) (by kernel_rfl) (by simp) ?_
      refine AllReadyH.cons (by rfl) (fun K hK => ?_) AllReadyH.nil
      simp only [List.getElem_toArray, List.getElem_cons_zero, List.getElem_cons_succ]
      have T := veil (cond_store (a := ca) (b := cb) (c := cc) M2.out.lay mem0 rfl ONE.out.1 ONE.out.2.1 ONE.out.2.2)
      refine wp_store_of (.tmp 5) (.tmp 12) rfl rfl rfl T.out ?_
      have N := M2.out.put 0 rfl [ca, cb, cc]
      simp only [List.set_cons_zero] at N
      replace N := veil N
      clear T
      (try dsimp only)
      refine hK.out _ _ (MK.out _ [_] N.out) (fun hHeld => ?_)
      clear hK K
      try simp only [Act.put, List.setIfInBounds_toArray, List.set_cons_zero, List.set_cons_succ, List.getElem_toArray, List.getElem_cons_zero, List.getElem_cons_succ]
      refine wpAnyH_take (i := 9) (v := ?_) (by rfl) (by kernel_rfl) (by kernel_rfl) (by kernel_rfl) (fun _ _ _ h => h) (Or.inl ⟨by rfl, ?_⟩) hHeld ?_
      rotate_left
      · intro w' hSw
        (try dsimp only at hSw)
        simp only [List.getElem_toArray, List.getElem_cons_zero, List.getElem_cons_succ]
        go_simp
        all_goals (try with_reducible rfl)
      try simp only [Act.put, List.setIfInBounds_toArray, List.set_cons_zero, List.set_cons_succ, List.getElem_toArray, List.getElem_cons_zero, List.getElem_cons_succ]
      refine wpAnyH_done (by kernel_rfl) ?_ _
      refine NoPanic.normal ?_
      clear hHeld
      (try go_wp2_with fail)
      go_meet
      exact ⟨_, rfl, rfl, N⟩
  case rest =>
    obtain ⟨gc, rfl, rfl, N⟩ := hcut
    clear HL ONE M
    obtain ⟨e1, e2, e3⟩ := HC.out
    subst e1 e2 e3
    clear HC
    have d0 := N.out.lay.look mem0 (o := 0) (v := .int .u8 h) rfl
    have p2 := (pktAt N.out.lay mem2 VG.out.ends).hops
    by_cases hh : k.hops = h
    · have dh : (k.hops == h) = true := by simp [hh]
      have HH := veil hh
      have m1 := (msgAt N.out.lay mem1 VG.out.f).code
      clear hh
      by_cases hc : m.code = 0
      · have dc : (m.code == 0) = true := by simp [hc]
        have HCC := veil hc
        have d1 := N.out.lay.look mem0 (o := 1) (v := fnv f) rfl
        clear hc
        go_wp2_with (refine wpList_load_of rfl _ rfl rfl (pktAt N.out.lay mem2 VG.out.ends).src ?_)
        rw [VE1.out]
        refine (VK1.out _ N.out.knw).mono ?_
        rintro e w3 ⟨rfl, q⟩
        have N := veil (N.out.keep q)
        clear q d0 d1 p2 m1 dh dc
        cases ha : a with
        | false =>
          have HA := veil ha
          clear ha
          go_wp2_with fail
          go_ret
          exact ⟨by rw [HA.out]; simp, N.out.below⟩
        | true =>
          have HA := veil ha
          have d2 := N.out.lay.look mem0 (o := 2) (v := fnv g) rfl
          clear ha
          go_wp2_with (first
            | (refine wpList_load_of rfl (.tmp 2) rfl rfl (pktAt N.out.lay mem2 VG.out.ends).all ?_)
            | (refine wpList_load_of rfl (.tmp 3) rfl rfl (msgAt N.out.lay mem1 VG.out.f).all ?_))
          rw [VE2.out]
          refine (VK2.out _ N.out.knw (HO.out.keep N.out.below)).mono ?_
          rintro e w4 ⟨rfl, q⟩
          have N := veil (N.out.keep q)
          clear q d2
          go_wp2_with fail
          go_ret
          exact ⟨by rw [HA.out, HH.out, HCC.out]; simp, N.out.below⟩
      · have dc : (m.code == 0) = false := by simp [hc]
        have HCC := veil hc
        clear hc
        go_wp2_with fail
        go_ret
        exact ⟨by rw [decide_eq_false HCC.out]; simp, N.out.below⟩
    · have dh : (k.hops == h) = false := by simp [hh]
      have HH := veil hh
      clear hh
      go_wp2_with fail
      go_ret
      exact ⟨by rw [decide_eq_false HH.out]; simp, N.out.below⟩
end

end Go.Proofs.YthkiamkhignchaaDoor.Ck
