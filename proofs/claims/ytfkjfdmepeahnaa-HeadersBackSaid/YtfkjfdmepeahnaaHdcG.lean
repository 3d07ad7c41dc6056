/-
  The map of steps, and a chain gone through header by header, by the code.
  Conditions: at most 16000000 bytes; places stay below 2 to the 64th.
-/
import Derived.Test.YtfkjfdmepeahnaaHdcF
import Derived.Maps.OwnSet
namespace Go.Proofs.Ytfkjfdmepeahnaa.Hd
set_option maxRecDepth 100000
open Go.RowKit Ops Go.Maps Go.ChangeMaps

/-- a map from bytes to values -/
def Mb (w : World) (m : Nat) (es : List (Int × Value)) : Prop := ∃ arr clock, w.heap[m]? = some (.map arr clock) ∧ arr.toList.map (fun e => (e.key, e.val)) = es.map (fun p => (Value.int .u8 p.1, p.2)) ∧ ∀ p ∈ es, 0 ≤ p.1 ∧ p.1 ≤ 255
theorem Mb.lt {w : World} {m : Nat} {es : List (Int × Value)} (h : Mb w m es) : m < w.heap.size := by
  obtain ⟨_, _, hb, _⟩ := h
  exact (Array.getElem?_eq_some_iff.1 hb).1
theorem Mb.same {w w' : World} {m : Nat} {es : List (Int × Value)} (h : Mb w m es) (e : w'.heap[m]? = w.heap[m]?) : Mb w' m es := by
  obtain ⟨arr, clock, hb, r⟩ := h
  exact ⟨arr, clock, e.trans hb, r⟩
theorem Mb.ne {w : World} {m g : Nat} {es : List (Int × Value)} {t : TypeId} {cs : Array Value} (h : Mb w m es) (hr : Row w g t cs) : g ≠ m := by
  rintro rfl
  obtain ⟨_, _, hb, _⟩ := h
  unfold Row at hr
  rw [hr] at hb
  cases hb
theorem mb_new (w : World) : Mb (w.alloc (.map #[] 0)) w.heap.size [] := ⟨#[], 0, (MapKept.heap_alloc w _).1, by simp, by simp⟩
theorem byteLaw : Keyed Try.prog 5 := int_keyed Try.underlying5
theorem keyOf_byte {k : Int} (h : 0 ≤ k ∧ k ≤ 255) : keyOf Try.prog 5 (.int .u8 k) = some (.int .u8 k) := by
  have hw : (Lit.int .u8 k).wf = true := by simp [Lit.wf, IntKind.min, IntKind.max, IntKind.signed, IntKind.bits]; omega
  simp [keyOf, mapKey, Try.underlying5, hw]
theorem mb_keys {es : List (Int × Value)} {arr : Array MapEntry} (h : arr.toList.map (fun e => (e.key, e.val)) = es.map (fun p => (Value.int .u8 p.1, p.2))) (hb : ∀ p ∈ es, 0 ≤ p.1 ∧ p.1 ≤ 255) {e : MapEntry} (he : e ∈ arr.toList) : ∃ p ∈ es, e.key = .int .u8 p.1 ∧ e.val = p.2 ∧ 0 ≤ p.1 ∧ p.1 ≤ 255 := by
  have : (e.key, e.val) ∈ arr.toList.map (fun e => (e.key, e.val)) := List.mem_map_of_mem he
  rw [h, List.mem_map] at this
  obtain ⟨p, hp, e1⟩ := this
  simp only [Prod.mk.injEq] at e1
  exact ⟨p, hp, e1.1.symm, e1.2.symm, hb p hp⟩
theorem mb_law {es : List (Int × Value)} {arr : Array MapEntry} (h : arr.toList.map (fun e => (e.key, e.val)) = es.map (fun p => (Value.int .u8 p.1, p.2))) (hb : ∀ p ∈ es, 0 ≤ p.1 ∧ p.1 ≤ 255) : ∀ e ∈ arr.toList, ∃ l, keyOf Try.prog 5 e.key = some l := fun e he => by
  obtain ⟨p, _, hk, _, hq⟩ := mb_keys h hb he
  rw [hk]
  exact ⟨_, keyOf_byte hq⟩
theorem Mb.hit {w : World} {m : Nat} {es : List (Int × Value)} (h : Mb w m es) {k : Int} {v : Value} (hk : 0 ≤ k ∧ k ≤ 255) (hin : ∃ p ∈ es, p.1 = k) (hv : ∀ p ∈ es, p.1 = k → p.2 = v) :
    (Instr.lookup 90 (.map (some m)) (.int .u8 k) true).run Try.prog w = .ok (.tuple #[v, .bool true]) w := by
  obtain ⟨arr, clock, hb, he, hq⟩ := h
  rcases byteLaw.find w (keyOf_byte hk) arr.toList (mb_law he hq) with ⟨h1, h2⟩ | ⟨j, e0, h1, h2, h3⟩
  · obtain ⟨p, hp, e1⟩ := hin
    have : (Value.int .u8 p.1, p.2) ∈ arr.toList.map (fun e => (e.key, e.val)) := by rw [he]; exact List.mem_map_of_mem (f := fun p : Int × Value => (Value.int .u8 p.1, p.2)) hp
    rw [List.mem_map] at this
    obtain ⟨e, hm, e2⟩ := this
    simp only [Prod.mk.injEq] at e2
    exact absurd (e2.1.trans (by rw [e1])) (h2 e hm)
  · obtain ⟨p, hp, hk', hv', _⟩ := mb_keys he hq (List.mem_of_getElem? h2)
    rw [h3] at hk'
    injection hk' with _ hk'
    have e1 : e0.val = v := hv'.trans (hv p hp hk'.symm)
    simp [Instr.lookup, run_underlying Try.underlying90, MapKept.run_getObj_map hb, byteLaw.check w _ (keyOf_byte hk), h1, Result.andThen, e1]
theorem Mb.miss {w : World} {m : Nat} {es : List (Int × Value)} (h : Mb w m es) {k : Int} (hk : 0 ≤ k ∧ k ≤ 255) (hn : ∀ p ∈ es, p.1 ≠ k) :
    (Instr.lookup 90 (.map (some m)) (.int .u8 k) true).run Try.prog w = .ok (.tuple #[.nilFunc, .bool false]) w := by
  obtain ⟨arr, clock, hb, he, hq⟩ := h
  have hz : (zeroValue 93).run Try.prog w = .ok .nilFunc w := by kernel_rfl
  rcases byteLaw.find w (keyOf_byte hk) arr.toList (mb_law he hq) with ⟨h1, h2⟩ | ⟨j, e0, h1, h2, h3⟩
  · simp [Instr.lookup, run_underlying Try.underlying90, MapKept.run_getObj_map hb, byteLaw.check w _ (keyOf_byte hk), h1, Result.andThen, hz]
  · obtain ⟨p, hp, hk', _, _⟩ := mb_keys he hq (List.mem_of_getElem? h2)
    rw [h3] at hk'
    injection hk' with _ hk'
    exact absurd hk'.symm (hn p hp)
theorem Mb.more {w : World} {m : Nat} {es : List (Int × Value)} (h : Mb w m es) {k : Int} (v : Value) (hk : 0 ≤ k ∧ k ≤ 255) (hn : ∀ p ∈ es, p.1 ≠ k) :
    ∃ w', (Instr.mapUpdate 90 (.map (some m)) (.int .u8 k) v).run Try.prog w = .ok () w' ∧ Mb w' m (es ++ [(k, v)]) ∧ w.grownBy w' (some m) := by
  obtain ⟨arr, clock, hb, he, hq⟩ := h
  rcases byteLaw.find w (keyOf_byte hk) arr.toList (mb_law he hq) with ⟨h1, h2⟩ | ⟨j, e0, h1, h2, h3⟩
  · refine ⟨_, by simp [Instr.mapUpdate, run_underlying Try.underlying90, MapKept.run_getObj_map hb, byteLaw.check w false (keyOf_byte hk), h1, MapKept.run_setObj_map _ hb, Result.andThen]; rfl, ⟨arr.push ⟨.int .u8 k, v, clock⟩, clock + 1, heap_setBlock_same hb _, ?_, ?_⟩, ⟨rfl, rfl, rfl, by simp [setBlock], fun i _ hi => heap_setBlock_other hb _ (fun e => hi (by rw [e]))⟩⟩
    · simp only [Array.toList_push, List.map_append, he, List.map_cons, List.map_nil]
    · intro p hp
      simp only [List.mem_append, List.mem_singleton] at hp
      rcases hp with hp | rfl
      · exact hq p hp
      · exact hk
  · obtain ⟨p, hp, hk', _, _⟩ := mb_keys he hq (List.mem_of_getElem? h2)
    rw [h3] at hk'
    injection hk' with _ hk'
    exact absurd hk'.symm (hn p hp)

theorem wpList_insert_of {P : Program} {w w' : World} {ops : Array Oper} {rest : List Oper} {o : Oper} {a : Act} {Q : Exit → Act → World → Prop} {t : TypeId} {m k v : Value} (hw : Region.wanted o (yielded ops a.tmps) = true) (x y z : Operand)
    (ho : o.op = .insert t x y z) (hx : a.eval x = m) (hy : a.eval y = k) (hz : a.eval z = v) (hrun : (Instr.mapUpdate t m k v).run P w = .ok () w') (h : wpList P ops Q rest (a.put o.dst undef) w') : wpList P ops Q (o :: rest) a w := by
  refine wpList_wanted hw fun K hK => ?_
  have hK' := hK _ w' h
  unfold Oper.wp execOp
  simp only [ho, hx, hy, hz, hrun, Sem.run_bind, Sem.run_pure, Result.andThen_ok]
  simpa [Oper.upon] using hK'
theorem wpList_lookup_of {P : Program} {w w' : World} {ops : Array Oper} {rest : List Oper} {o : Oper} {a : Act} {Q : Exit → Act → World → Prop} {t : TypeId} {m k v : Value} {c : Bool} (hw : Region.wanted o (yielded ops a.tmps) = true) (x y : Operand)
    (ho : o.op = .lookup t x y c) (hx : a.eval x = m) (hy : a.eval y = k) (hrun : (Instr.lookup t m k c).run P w = .ok v w') (h : wpList P ops Q rest (a.put o.dst v) w') : wpList P ops Q (o :: rest) a w := by
  refine wpList_wanted hw fun K hK => ?_
  have hK' := hK _ w' h
  unfold Oper.wp execOp
  simp only [ho, hx, hy, hrun, Sem.run_bind, Sem.run_pure, Result.andThen_ok]
  simpa [Oper.upon] using hK'

abbrev fnv (f : FuncId) : Value := .func (.func f) #[] #[]
/-- what each header does -/
def five : List (Int × Value) := [(0, fnv 52), (43, fnv 53), (44, fnv 54), (59, fnv 55), (60, fnv 56)]

theorem steps_any (w : World) : Calls Try.prog 44 #[] w fun e w' => e = .returned (.map (some w.heap.size)) ∧ Mb w' w.heap.size five ∧ Below w.heap.size w w' := by
  have M0 := mb_new w
  have q0 := below_new w (.map #[] 0)
  obtain ⟨w1, h1, M1, g1⟩ := M0.more (fnv 52) (k := 0) (by omega) (by simp)
  obtain ⟨w2, h2, M2, g2⟩ := M1.more (fnv 53) (k := 43) (by omega) (by simp)
  obtain ⟨w3, h3, M3, g3⟩ := M2.more (fnv 54) (k := 44) (by omega) (by simp)
  obtain ⟨w4, h4, M4, g4⟩ := M3.more (fnv 55) (k := 59) (by omega) (by simp)
  obtain ⟨w5, h5, M5, g5⟩ := M4.more (fnv 56) (k := 60) (by omega) (by simp)
  have s0 : w.heap.size ≤ (w.alloc (.map #[] 0)).heap.size := by simp
  have q1 := below_gb q0 g1 s0 (Nat.le_refl _)
  have q2 := below_gb q1 g2 q1.size (Nat.le_refl _)
  have q3 := below_gb q2 g3 q2.size (Nat.le_refl _)
  have q4 := below_gb q3 g4 q3.size (Nat.le_refl _)
  have q5 := below_gb q4 g5 q4.size (Nat.le_refl _)
  have H0 : Hid ((Instr.makeMap 90 none).run Try.prog w = .ok (.map (some w.heap.size)) (w.alloc (.map #[] 0))) := veil (by kernel_rfl)
  have VM := veil M5
  have VQ := veil q5
  have H1 := veil h1
  have H2 := veil h2
  have H3 := veil h3
  have H4 := veil h4
  have H5 := veil h5
  clear M0 M1 M2 M3 M4 M5 q0 q1 q2 q3 q4 q5 g1 g2 g3 g4 g5 h1 h2 h3 h4 h5 s0
  go_enter Try.func44, Try.ntmps44
  go_wp2_with (first
    | (refine wpList_value_of rfl (Instr.makeMap 90 none) rfl H0.out ?_)
    | (refine wpList_insert_of rfl _ _ _ rfl rfl rfl rfl H1.out ?_)
    | (refine wpList_insert_of rfl _ _ _ rfl rfl rfl rfl H2.out ?_)
    | (refine wpList_insert_of rfl _ _ _ rfl rfl rfl rfl H3.out ?_)
    | (refine wpList_insert_of rfl _ _ _ rfl rfl rfl rfl H4.out ?_)
    | (refine wpList_insert_of rfl _ _ _ rfl rfl rfl rfl H5.out ?_))
  go_ret
  exact ⟨rfl, VM.out, VQ.out⟩

/-- how far a walk has to go -/
def far (w : World) (g c : Nat) : Nat := match w.cell? ⟨g, 6, none⟩ with | some (.bool true) => 0 | _ => leftAt w c + 1

section
variable {P : Nat → Prop} {w0 w : World} {g c b o r : Nat} {s : St} {zs : List Int} {T : Tl}

theorem far_un (h : LayF P w0 w (L3 g c b s (ct b o r) zs)) (hs : s.ended = false) : far w g c = r + 1 := by
  have h6 : w.cell? ⟨g, 6, none⟩ = some (.bool s.ended) := h.look mem0 rfl
  rw [hs] at h6
  unfold far
  rw [h6]
  simp only []
  rw [left_at h mem1]
theorem far_done {cu : List Value} (h : LayF P w0 w (L3 g c b s cu zs)) (hs : s.ended = true) : far w g c = 0 := by
  have h6 : w.cell? ⟨g, 6, none⟩ = some (.bool s.ended) := h.look mem0 rfl
  rw [hs] at h6
  unfold far
  rw [h6]

/-- where a walk stands -/
def Where (T : Tl) (zs : List Int) (b : Nat) (s : St) (cu : List Value) (d : Nat) : Prop := (∃ o r, cu = ct b o r ∧ o + r ≤ zs.length ∧ d = r + 1 ∧ Un T s (lef zs o r)) ∨ (d = 0 ∧ Done T zs b s)

set_option maxHeartbeats 4000000 in
theorem through_any (h : LayF P w0 w (L3 g c b s (ct b o r) zs)) (hz : Byt zs) (hr : o + r ≤ zs.length) (hb : zs.length ≤ 16000000) (U : Un T s (lef zs o r)) :
    Calls Try.prog 38 #[.pointer (some ⟨g, 0, none⟩)] w fun e w' => ∃ s' cu, e = .returned (.int .i64 T.e) ∧ LayF P w0 w' (L3 g c b s' cu zs) ∧ (T.e = 0 → Done T zs b s') ∧ (T.e = 7 → s'.al = T.alert ∧ s'.code = T.code ∧ s'.place = T.place) := by
  have K0 := veil (steps_any w)
  have VH := veil h
  have HZ := veil hz
  have HB := veil hb
  have VW0 := veil (show Where T zs b s (ct b o r) (r + 1) from .inl ⟨o, r, rfl, hr, rfl, U⟩)
  clear h hz hr hb U
  go_enter Try.func38, Try.ntmps38
  go_wp2_with fail
  refine (K0.out).mono ?_
  rintro e w1 ⟨rfl, M, q⟩
  have Y1 := VH.out.keep q
  have V1 := veil Y1
  have VB := veil Y1.rebase
  have hPQ : ∀ k, P k → k < w1.heap.size ∧ ∀ x ∈ L3 g c b s (ct b o r) zs, x.1 ≠ k := fun k hk => ⟨Nat.lt_of_lt_of_le (Y1.bnd k hk) Y1.size, fun x hx e => Y1.own x hx (by rw [e]; exact hk)⟩
  have VPQ := veil hPQ
  have hm : w.heap.size < w1.heap.size ∧ ∀ x ∈ L3 g c b s (ct b o r) zs, x.1 ≠ w.heap.size := ⟨M.lt, fun x hx => M.ne (Y1.row x hx)⟩
  have VMM := veil hm
  have VM := veil M
  generalize w.heap.size = m at *
  clear K0 VH Y1 q hPQ hm M
  obtain ⟨Q, hQ⟩ : ∃ Q : Nat → Prop, (fun k => k < w1.heap.size ∧ ∀ x ∈ L3 g c b s (ct b o r) zs, x.1 ≠ k) = Q := ⟨_, rfl⟩
  have VMQ : Hid (Q m) := veil (by rw [← hQ]; exact VMM.out)
  have VPP : Hid (∀ k, P k → Q k) := veil (by rw [← hQ]; exact VPQ.out)
  rw [hQ] at VB
  clear hQ VMM VPQ
  go_wp2_with fail
  go_loopw [] (fun wr => ∃ (s' : St) (cu : List Value) (d : Nat), Hid (LayF Q w1 wr (L3 g c b s' cu zs)) ∧ Hid (Where T zs b s' cu d)) (fun wr => far wr g c)
  case atStart => exact ⟨s, ct b o r, r + 1, VB, VW0⟩
  case round =>
    obtain ⟨s2, cu2, d2, VY, VW⟩ := hrel
    clear VB VW0
    have c6 : wr.cell? ⟨g, 6, none⟩ = some (.bool s2.ended) := VY.out.look mem0 rfl
    have HM := veil (VM.out.same (VY.out.block m VMQ.out))
    rcases VW.out with ⟨o2, r2, rfl, ho2, rfl, U2⟩ | ⟨rfl, D2⟩
    · have M0 := veil (far_un VY.out U2.going)
      rw [U2.going] at c6
      have c2 : wr.cell? ⟨g, 2, none⟩ = some (.int .u8 s2.next) := VY.out.look mem0 rfl
      have VU := veil U2
      have nb := U2.nb
      have HO := veil ho2
      clear VW U2 ho2
      rcases (by omega : s2.next = 0 ∨ s2.next = 43 ∨ s2.next = 44 ∨ s2.next = 59 ∨ s2.next = 60 ∨ (¬ s2.next = 0 ∧ ¬ s2.next = 43 ∧ ¬ s2.next = 44 ∧ ¬ s2.next = 59 ∧ ¬ s2.next = 60)) with hn | hn | hn | hn | hn | ⟨n0, n43, n44, n59, n60⟩
      · have K := veil (hops_to VY.out HZ.out HO.out HB.out VU.out hn)
        have HL := veil (HM.out.hit (k := 0) (v := fnv 52) (by omega) (by simp [five]) (by simp [five]))
        rw [hn] at c2
        go_wp2_with (refine wpList_lookup_of rfl _ _ rfl rfl rfl HL.out ?_)
        refine (K.out).mono ?_
        rintro e w5 ⟨n5, s5, cu5, rfl, Y5, C⟩
        have VY5 := veil Y5
        clear K Y5
        rcases C with ⟨rfl, o5, r5, rfl, ho, hlt, U5⟩ | ⟨rfl, D5⟩ | ⟨hn0, hTe, h7⟩
        · have W5 := veil (show Where T zs b s5 (ct b o5 r5) (r5 + 1) from .inl ⟨o5, r5, rfl, ho, rfl, U5⟩)
          have M5 := veil (far_un VY5.out U5.going)
          clear U5
          go_wp2_with fail
          go_roundw
          case rel => exact ⟨s5, _, _, VY5.out, W5.out⟩
          case measure => rw [M0.out, M5.out]; omega
        · have W5 := veil (show Where T zs b s5 cu5 0 from .inr ⟨rfl, D5⟩)
          have M5 := veil (far_done VY5.out D5.over)
          clear D5
          go_wp2_with fail
          go_roundw
          case rel => exact ⟨s5, _, _, VY5.out, W5.out⟩
          case measure => rw [M0.out, M5.out]; omega
        · have f5 : (n5 == 0) = false := by simpa using hn0
          have V7 := veil h7
          have VE := veil hTe
          clear h7 hTe
          go_wp2_with fail
          go_ret
          exact ⟨s5, cu5, by rw [VE.out]; rfl, VY5.out.then V1.out VPP.out, fun q => absurd (VE.out.symm.trans q) hn0, fun q => V7.out (VE.out.symm.trans q)⟩
      · have K := veil (route_to VY.out HZ.out HO.out HB.out VU.out hn)
        have HL := veil (HM.out.hit (k := 43) (v := fnv 53) (by omega) (by simp [five]) (by simp [five]))
        rw [hn] at c2
        go_wp2_with (refine wpList_lookup_of rfl _ _ rfl rfl rfl HL.out ?_)
        refine (K.out).mono ?_
        rintro e w5 ⟨n5, s5, cu5, rfl, Y5, C⟩
        have VY5 := veil Y5
        clear K Y5
        rcases C with ⟨rfl, o5, r5, rfl, ho, hlt, U5⟩ | ⟨rfl, D5⟩ | ⟨hn0, hTe, h7⟩
        · have W5 := veil (show Where T zs b s5 (ct b o5 r5) (r5 + 1) from .inl ⟨o5, r5, rfl, ho, rfl, U5⟩)
          have M5 := veil (far_un VY5.out U5.going)
          clear U5
          go_wp2_with fail
          go_roundw
          case rel => exact ⟨s5, _, _, VY5.out, W5.out⟩
          case measure => rw [M0.out, M5.out]; omega
        · have W5 := veil (show Where T zs b s5 cu5 0 from .inr ⟨rfl, D5⟩)
          have M5 := veil (far_done VY5.out D5.over)
          clear D5
          go_wp2_with fail
          go_roundw
          case rel => exact ⟨s5, _, _, VY5.out, W5.out⟩
          case measure => rw [M0.out, M5.out]; omega
        · have f5 : (n5 == 0) = false := by simpa using hn0
          have V7 := veil h7
          have VE := veil hTe
          clear h7 hTe
          go_wp2_with fail
          go_ret
          exact ⟨s5, cu5, by rw [VE.out]; rfl, VY5.out.then V1.out VPP.out, fun q => absurd (VE.out.symm.trans q) hn0, fun q => V7.out (VE.out.symm.trans q)⟩
      · have K := veil (part_to VY.out HZ.out HO.out VU.out hn)
        have HL := veil (HM.out.hit (k := 44) (v := fnv 54) (by omega) (by simp [five]) (by simp [five]))
        rw [hn] at c2
        go_wp2_with (refine wpList_lookup_of rfl _ _ rfl rfl rfl HL.out ?_)
        refine (K.out).mono ?_
        rintro e w5 ⟨n5, s5, cu5, rfl, Y5, C⟩
        have VY5 := veil Y5
        clear K Y5
        rcases C with ⟨rfl, o5, r5, rfl, ho, hlt, U5⟩ | ⟨rfl, D5⟩ | ⟨hn0, hTe, h7⟩
        · have W5 := veil (show Where T zs b s5 (ct b o5 r5) (r5 + 1) from .inl ⟨o5, r5, rfl, ho, rfl, U5⟩)
          have M5 := veil (far_un VY5.out U5.going)
          clear U5
          go_wp2_with fail
          go_roundw
          case rel => exact ⟨s5, _, _, VY5.out, W5.out⟩
          case measure => rw [M0.out, M5.out]; omega
        · have W5 := veil (show Where T zs b s5 cu5 0 from .inr ⟨rfl, D5⟩)
          have M5 := veil (far_done VY5.out D5.over)
          clear D5
          go_wp2_with fail
          go_roundw
          case rel => exact ⟨s5, _, _, VY5.out, W5.out⟩
          case measure => rw [M0.out, M5.out]; omega
        · have f5 : (n5 == 0) = false := by simpa using hn0
          have V7 := veil h7
          have VE := veil hTe
          clear h7 hTe
          go_wp2_with fail
          go_ret
          exact ⟨s5, cu5, by rw [VE.out]; rfl, VY5.out.then V1.out VPP.out, fun q => absurd (VE.out.symm.trans q) hn0, fun q => V7.out (VE.out.symm.trans q)⟩
      · have K := veil (nothing_to VY.out VU.out hn)
        have HL := veil (HM.out.hit (k := 59) (v := fnv 55) (by omega) (by simp [five]) (by simp [five]))
        rw [hn] at c2
        go_wp2_with (refine wpList_lookup_of rfl _ _ rfl rfl rfl HL.out ?_)
        refine (K.out).mono ?_
        rintro e w5 ⟨n5, s5, cu5, rfl, Y5, C⟩
        have VY5 := veil Y5
        clear K Y5
        rcases C with ⟨rfl, o5, r5, rfl, ho, hlt, U5⟩ | ⟨rfl, D5⟩ | ⟨hn0, hTe, h7⟩
        · have W5 := veil (show Where T zs b s5 (ct b o5 r5) (r5 + 1) from .inl ⟨o5, r5, rfl, ho, rfl, U5⟩)
          have M5 := veil (far_un VY5.out U5.going)
          clear U5
          go_wp2_with fail
          go_roundw
          case rel => exact ⟨s5, _, _, VY5.out, W5.out⟩
          case measure => rw [M0.out, M5.out]; omega
        · have W5 := veil (show Where T zs b s5 cu5 0 from .inr ⟨rfl, D5⟩)
          have M5 := veil (far_done VY5.out D5.over)
          clear D5
          go_wp2_with fail
          go_roundw
          case rel => exact ⟨s5, _, _, VY5.out, W5.out⟩
          case measure => rw [M0.out, M5.out]; omega
        · have f5 : (n5 == 0) = false := by simpa using hn0
          have V7 := veil h7
          have VE := veil hTe
          clear h7 hTe
          go_wp2_with fail
          go_ret
          exact ⟨s5, cu5, by rw [VE.out]; rfl, VY5.out.then V1.out VPP.out, fun q => absurd (VE.out.symm.trans q) hn0, fun q => V7.out (VE.out.symm.trans q)⟩
      · have K := veil (options_to VY.out HZ.out HO.out HB.out VU.out (.inr hn))
        have HL := veil (HM.out.hit (k := 60) (v := fnv 56) (by omega) (by simp [five]) (by simp [five]))
        rw [hn] at c2
        go_wp2_with (refine wpList_lookup_of rfl _ _ rfl rfl rfl HL.out ?_)
        refine (K.out).mono ?_
        rintro e w5 ⟨n5, s5, cu5, rfl, Y5, C⟩
        have VY5 := veil Y5
        clear K Y5
        rcases C with ⟨rfl, o5, r5, rfl, ho, hlt, U5⟩ | ⟨rfl, D5⟩ | ⟨hn0, hTe, h7⟩
        · have W5 := veil (show Where T zs b s5 (ct b o5 r5) (r5 + 1) from .inl ⟨o5, r5, rfl, ho, rfl, U5⟩)
          have M5 := veil (far_un VY5.out U5.going)
          clear U5
          go_wp2_with fail
          go_roundw
          case rel => exact ⟨s5, _, _, VY5.out, W5.out⟩
          case measure => rw [M0.out, M5.out]; omega
        · have W5 := veil (show Where T zs b s5 cu5 0 from .inr ⟨rfl, D5⟩)
          have M5 := veil (far_done VY5.out D5.over)
          clear D5
          go_wp2_with fail
          go_roundw
          case rel => exact ⟨s5, _, _, VY5.out, W5.out⟩
          case measure => rw [M0.out, M5.out]; omega
        · have f5 : (n5 == 0) = false := by simpa using hn0
          have V7 := veil h7
          have VE := veil hTe
          clear h7 hTe
          go_wp2_with fail
          go_ret
          exact ⟨s5, cu5, by rw [VE.out]; rfl, VY5.out.then V1.out VPP.out, fun q => absurd (VE.out.symm.trans q) hn0, fun q => V7.out (VE.out.symm.trans q)⟩
      · have K := veil (other_to VY.out HO.out VU.out n0 n60 n43 n44 n59)
        have HL := veil (HM.out.miss (k := s2.next) nb (by simp only [five, List.mem_cons, List.not_mem_nil, or_false, forall_eq_or_imp, forall_eq]; omega))
        go_wp2_with (refine wpList_lookup_of rfl _ _ rfl rfl rfl HL.out ?_)
        refine (K.out).mono ?_
        rintro e w5 ⟨n5, s5, cu5, rfl, Y5, C⟩
        have VY5 := veil Y5
        clear K Y5
        rcases C with ⟨rfl, o5, r5, rfl, ho, hlt, U5⟩ | ⟨rfl, D5⟩ | ⟨hn0, hTe, h7⟩
        · have W5 := veil (show Where T zs b s5 (ct b o5 r5) (r5 + 1) from .inl ⟨o5, r5, rfl, ho, rfl, U5⟩)
          have M5 := veil (far_un VY5.out U5.going)
          clear U5
          go_wp2_with fail
          go_roundw
          case rel => exact ⟨s5, _, _, VY5.out, W5.out⟩
          case measure => rw [M0.out, M5.out]; omega
        · have W5 := veil (show Where T zs b s5 cu5 0 from .inr ⟨rfl, D5⟩)
          have M5 := veil (far_done VY5.out D5.over)
          clear D5
          go_wp2_with fail
          go_roundw
          case rel => exact ⟨s5, _, _, VY5.out, W5.out⟩
          case measure => rw [M0.out, M5.out]; omega
        · have f5 : (n5 == 0) = false := by simpa using hn0
          have V7 := veil h7
          have VE := veil hTe
          clear h7 hTe
          go_wp2_with fail
          go_ret
          exact ⟨s5, cu5, by rw [VE.out]; rfl, VY5.out.then V1.out VPP.out, fun q => absurd (VE.out.symm.trans q) hn0, fun q => V7.out (VE.out.symm.trans q)⟩
    · rw [D2.over] at c6
      have VD := veil D2
      clear VW D2
      go_wp2_with fail
      go_ret
      exact ⟨s2, cu2, by rw [VD.out.e]; rfl, VY.out.then V1.out VPP.out, fun _ => VD.out, fun q => absurd (VD.out.e.symm.trans q) (by omega)⟩
end

end Go.Proofs.Ytfkjfdmepeahnaa.Hd
