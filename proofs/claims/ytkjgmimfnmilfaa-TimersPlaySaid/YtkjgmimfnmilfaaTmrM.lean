/-
  Words for memory: all blocks but some stay; a map from keys to places; a list of timers in a row of its own.
  Conditions: none.
-/
import Derived.Test.YtkjgmimfnmilfaaTmrP
import Derived.Test.YtkjgmimfnmilfaaStep
import Derived.Maps.OwnSet
import Derived.DeepKeys4
import Derived.ArgAppend
namespace Go.Proofs.Ytkjgmimfnmilfaa.Tm5
open Go.RowKit Go.Maps Go.ChangeMaps

/-! ### all blocks but those of F are as they were -/
structure Kept (F : List Nat) (w w' : World) : Prop where
  os : w'.os = w.os
  tape : w'.tape = w.tape
  output : w'.output = w.output
  size : w.heap.size ≤ w'.heap.size
  block : ∀ k, k < w.heap.size → k ∉ F → w'.heap[k]? = w.heap[k]?

theorem Kept.refl (F : List Nat) (w : World) : Kept F w w := ⟨rfl, rfl, rfl, Nat.le_refl _, fun _ _ _ => rfl⟩
theorem Kept.trans {F G : List Nat} {a b c : World} (h : Kept F a b) (k : Kept G b c) (hG : ∀ x ∈ G, x ∈ F ∨ a.heap.size ≤ x) : Kept F a c :=
  ⟨k.os.trans h.os, k.tape.trans h.tape, k.output.trans h.output, Nat.le_trans h.size k.size, fun i hi hne => (k.block i (Nat.lt_of_lt_of_le hi h.size) (fun e => by
    rcases hG i e with e | e
    · exact hne e
    · omega)).trans (h.block i hi hne)⟩
theorem Kept.trans' {F : List Nat} {a b c : World} (h : Kept F a b) (k : Kept F b c) : Kept F a c := h.trans k (fun _ hx => .inl hx)
theorem kept_below {F : List Nat} {w w' : World} (h : Below w.heap.size w w') : Kept F w w' := ⟨h.os, h.tape, h.output, h.size, fun k hk _ => h.block k hk⟩
theorem kept_gb {F : List Nat} {g : Nat} {w w' : World} (h : w.grownBy w' (some g)) (hg : g ∈ F) : Kept F w w' :=
  ⟨h.os, h.tape, h.output, h.size, fun k hk hn => h.block k hk (fun e => hn (by injection e with e; rw [e]; exact hg))⟩
theorem kept_gbo {F : List Nat} {r : Option Nat} {w w' : World} (h : w.grownBy w' r) (hg : ∀ g, r = some g → g ∈ F) : Kept F w w' :=
  ⟨h.os, h.tape, h.output, h.size, fun k hk hn => h.block k hk (fun e => hn (hg k e.symm))⟩
theorem kept_drew (F : List Nat) (w : World) : Kept F w w.drew := ⟨rfl, rfl, rfl, Nat.le_refl _, fun _ _ _ => rfl⟩
theorem kept_drewN (F : List Nat) (w : World) (n : Nat) : Kept F w (w.drewN n) := ⟨rfl, rfl, rfl, Nat.le_refl _, fun _ _ _ => rfl⟩
theorem kept_alloc (F : List Nat) (w : World) (o : Obj) : Kept F w (w.alloc o) := kept_below (below_new w o)
theorem kept_set {F : List Nat} {w : World} {g i : Nat} {u : Value} (hg : g ∈ F) : Kept F w (w.setCell ⟨g, i, none⟩ u) := kept_gb (gb_set w g i u) hg
theorem kept_setRow {F : List Nat} {w : World} {g : Nat} {cs : Array Value} (hg : g ∈ F) : Kept F w (w.setRow g cs) := by
  refine ⟨rfl, rfl, rfl, by simp [World.setRow], fun k hk hn => ?_⟩
  unfold World.setRow
  rw [Array.getElem?_modify, if_neg (fun e => hn (by rw [← e]; exact hg))]
theorem Kept.mono {F G : List Nat} {w w' : World} (h : Kept F w w') (hs : ∀ x ∈ F, x ∈ G) : Kept G w w' := ⟨h.os, h.tape, h.output, h.size, fun k hk hn => h.block k hk (fun e => hn (hs k e))⟩
theorem Kept.below {F : List Nat} {B : Nat} {a w w' : World} (h : Below B a w) (k : Kept F w w') (hF : ∀ x ∈ F, B ≤ x) (hB : B ≤ w.heap.size) : Below B a w' :=
  ⟨k.os.trans h.os, k.tape.trans h.tape, k.output.trans h.output, Nat.le_trans h.size k.size, fun i hi => (k.block i (Nat.lt_of_lt_of_le hi hB) (fun e => by have := hF i e; omega)).trans (h.block i hi)⟩
theorem row_kept {F : List Nat} {w w' : World} {g : Nat} {t : TypeId} {cs : Array Value} (h : Row w g t cs) (k : Kept F w w') (hg : g ∉ F) : Row w' g t cs := (k.block g h.lt hg).trans h
theorem cell_kept {F : List Nat} {w w' : World} {a : Addr} {v : Value} (h : w.cell? a = some v) (k : Kept F w w') (hg : a.block ∉ F) : w'.cell? a = some v := by
  rw [← h]
  exact World.cell?_of_block (k.block _ (block_lt_of_cell h) hg)
theorem row_ne {w : World} {g g' : Nat} {t t' : TypeId} {cs cs' : Array Value} (h : Row w g t cs) (h' : Row w g' t' cs') (hne : t ≠ t') : g ≠ g' := by
  rintro rfl
  unfold Row at h h'
  rw [h] at h'
  injection h' with h'
  injection h' with _ ht
  exact hne ht

/-! ### keys and timers as values -/
def kv (k : Tk) : Value := .agg #[.int .u8 k.kd, .int .u64 k.id]
structure Tk.ok (k : Tk) : Prop where
  a0 : 0 ≤ k.kd
  a1 : k.kd ≤ 255
  b0 : 0 ≤ k.id
  b1 : k.id ≤ 18446744073709551615
structure Tm.ok (x : Tm) : Prop where
  k : x.k.ok
  c0 : 0 ≤ x.t
  c1 : x.t ≤ 18446744073709551615
def tv (x : Tm) : List Value := [.int .u8 x.k.kd, .int .u64 x.k.id, .int .u64 x.t]
def cv (l : List Tm) : List Value := l.flatMap tv

theorem kv_inj {a b : Tk} (h : kv a = kv b) : a = b := by
  cases a; cases b
  simpa [kv] using h
theorem law : Keyed Try.prog 33 := Keyed.of_law (deep_law_laid (by kernel_rfl) (m := 2) (by omega) (of_decide_eq_true (by kernel_rfl)) (by kernel_rfl) (by kernel_rfl))
theorem cells_key : Try.prog.cellsOf 33 = 2 := by kernel_rfl
theorem cells_u8 : Try.prog.cellsOf 5 = 1 := by kernel_rfl
theorem cells_u64 : Try.prog.cellsOf 31 = 1 := by kernel_rfl
theorem keyOf_kv {k : Tk} (h : k.ok) : ∃ l, keyOf Try.prog 33 (kv k) = some l := by
  obtain ⟨d, hd⟩ : ∃ d, Try.prog.types.size + 1 = d + 2 := ⟨Try.prog.types.size - 1, by
    have : decide (1 ≤ Try.prog.types.size) = true := by kernel_rfl
    have := of_decide_eq_true this
    omega⟩
  have h1 : Try.prog.keyType 33 = true := by kernel_rfl
  have w8 : (Lit.int .u8 k.kd).wf = true := by have := h.a0; have := h.a1; simp [Lit.wf, IntKind.min, IntKind.max, IntKind.signed, IntKind.bits]; omega
  have w64 : (Lit.int .u64 k.id).wf = true := by have := h.b0; have := h.b1; simp [Lit.wf, IntKind.min, IntKind.max, IntKind.signed, IntKind.bits]; omega
  have h2 : (kv k).formed Try.prog 33 = true := by simp [kv, Value.formed, Try.underlying33, cells_key]
  have h3 : ∃ ls, Try.prog.keyLits (Try.prog.types.size + 1) 33 (kv k).cells.toList = some ls := by
    rw [hd]
    simp [kv, Value.cells, Program.keyLits, Try.underlying33, cells_key, Try.underlying5, Try.underlying31, cells_u8, cells_u64, w8, w64]
  obtain ⟨ls, hls⟩ := h3
  refine ⟨.string (keyBytes ls), ?_⟩
  unfold keyOf
  rw [Try.underlying33]
  rw [h1, h2, hls]
  rfl

/-! ### a map from keys to places -/
def Ent (f : Tk → Option Nat) (e : MapEntry) : Prop := ∃ k i, Tk.ok k ∧ e.key = kv k ∧ f k = some i ∧ e.val = .int .i64 (i : Nat)
def Mp (w : World) (b : Nat) (f : Tk → Option Nat) : Prop :=
  ∃ es clock, w.heap[b]? = some (.map es clock) ∧ (∀ e ∈ es.toList, Ent f e) ∧ (∀ k, k.ok → f k ≠ none → ∃ e ∈ es.toList, e.key = kv k) ∧ es.toList.Pairwise (fun x y => x.key ≠ y.key)

theorem Mp.lt {w : World} {b : Nat} {f : Tk → Option Nat} (h : Mp w b f) : b < w.heap.size := by
  obtain ⟨es, clock, hb, _⟩ := h
  exact (Array.getElem?_eq_some_iff.1 hb).1
theorem Mp.kept {w w' : World} {b : Nat} {f : Tk → Option Nat} {F : List Nat} (h : Mp w b f) (k : Kept F w w') (hb : b ∉ F) : Mp w' b f := by
  have hlt := h.lt
  obtain ⟨es, clock, hb', r⟩ := h
  exact ⟨es, clock, (k.block b hlt hb).trans hb', r⟩
theorem Mp.ne {w : World} {b g : Nat} {f : Tk → Option Nat} {t : TypeId} {cs : Array Value} (h : Mp w b f) (hr : Row w g t cs) : b ≠ g := by
  rintro rfl
  obtain ⟨es, clock, hb, _⟩ := h
  unfold Row at hr
  rw [hr] at hb
  cases hb
theorem mp_new (w : World) : Mp (w.alloc (.map #[] 0)) w.heap.size (fun _ => none) :=
  ⟨#[], 0, (MapKept.heap_alloc w _).1, by simp, by simp, by simp⟩

theorem ent_key {f : Tk → Option Nat} {es : Array MapEntry} (h : ∀ e ∈ es.toList, Ent f e) : ∀ e ∈ es.toList, ∃ l, keyOf Try.prog 33 e.key = some l := by
  intro e he
  obtain ⟨k, i, ok, hk, _⟩ := h e he
  rw [hk]
  exact keyOf_kv ok

theorem Mp.look {w : World} {b : Nat} {f : Tk → Option Nat} (h : Mp w b f) {k : Tk} (ok : k.ok) :
    (Instr.lookup 56 (.map (some b)) (kv k) true).run Try.prog w = .ok (.tuple #[.int .i64 ((f k).getD 0 : Nat), .bool (f k).isSome]) w := by
  obtain ⟨es, clock, hb, he, hf, _⟩ := h
  obtain ⟨kl, hkl⟩ := keyOf_kv ok
  rcases law.find w hkl es.toList (ent_key he) with ⟨h1, h2⟩ | ⟨j, e0, h1, h2, h3⟩
  · have hn : f k = none := by
      cases hk : f k with
      | none => rfl
      | some i =>
        obtain ⟨e, hm, hke⟩ := hf k ok (by rw [hk]; simp)
        exact absurd hke (h2 e hm)
    simp [Instr.lookup, run_underlying Try.underlying56, MapKept.run_getObj_map hb, law.check w _ hkl, h1, Result.andThen, hn]
  · obtain ⟨k', i, _, hk', hi, hv⟩ := he e0 (List.mem_of_getElem? h2)
    rw [h3] at hk'
    have := kv_inj hk'
    subst this
    simp [Instr.lookup, run_underlying Try.underlying56, MapKept.run_getObj_map hb, law.check w _ hkl, h1, Result.andThen, hi, hv]

theorem gb_block {w : World} {b : Nat} {es es' : Array MapEntry} {c c' : Nat} (hb : w.heap[b]? = some (.map es c)) : w.grownBy (setBlock w b (.map es' c')) (some b) :=
  ⟨rfl, rfl, rfl, by simp [setBlock], fun i _ hi => heap_setBlock_other hb _ (fun e => hi (by rw [e]))⟩

theorem Mp.store {w : World} {b : Nat} {f : Tk → Option Nat} (h : Mp w b f) {k : Tk} (ok : k.ok) (i : Nat) :
    ∃ w', (Instr.mapUpdate 56 (.map (some b)) (kv k) (.int .i64 i)).run Try.prog w = .ok () w' ∧ Mp w' b (upd f k (some i)) ∧ w.grownBy w' (some b) := by
  obtain ⟨es, clock, hb, he, hf, hp⟩ := h
  obtain ⟨kl, hkl⟩ := keyOf_kv ok
  have ent : ∀ e ∈ es.toList, e.key ≠ kv k → Ent (upd f k (some i)) e := by
    intro e hm hne
    obtain ⟨k', i', ok', hk', hi', hv'⟩ := he e hm
    refine ⟨k', i', ok', hk', ?_, hv'⟩
    rw [upd_other (fun q => hne (by rw [hk', q]))]
    exact hi'
  rcases law.find w hkl es.toList (ent_key he) with ⟨h1, h2⟩ | ⟨j, e0, h1, h2, h3⟩
  · refine ⟨_, by simp [Instr.mapUpdate, run_underlying Try.underlying56, MapKept.run_getObj_map hb, law.check w false hkl, h1, MapKept.run_setObj_map _ hb, Result.andThen]; rfl, ⟨es.push ⟨kv k, .int .i64 i, clock⟩, clock + 1, heap_setBlock_same hb _, ?_, ?_, ?_⟩, gb_block hb⟩
    · intro e hm
      simp only [Array.toList_push, List.mem_append, List.mem_singleton] at hm
      rcases hm with hm | rfl
      · exact ent e hm (h2 e hm)
      · exact ⟨k, i, ok, rfl, upd_same f k _, rfl⟩
    · intro k' ok' hk'
      simp only [Array.toList_push, List.mem_append, List.mem_singleton]
      by_cases q : k' = k
      · subst q
        exact ⟨_, .inr rfl, rfl⟩
      · rw [upd_other q] at hk'
        obtain ⟨e, hm, hke⟩ := hf k' ok' hk'
        exact ⟨e, .inl hm, hke⟩
    · simp only [Array.toList_push]
      rw [List.pairwise_append]
      exact ⟨hp, by simp, fun a ha b hb => by simp at hb; subst hb; exact h2 a ha⟩
  · have hj : es[j]? = some e0 := by simpa using h2
    have hjl : j < es.toList.length := (List.getElem?_eq_some_iff.1 h2).1
    have hlist : (es.modify j (fun e' => { e' with key := kv k, val := .int .i64 i })).toList = es.toList.set j { e0 with key := kv k, val := .int .i64 i } := by rw [Array.toList_modify, modify_eq_set _ _ _ _ h2]
    have hpi := List.pairwise_iff_getElem.1 hp
    have other : ∀ c (hc : c < es.toList.length), c ≠ j → (es.toList[c]).key ≠ kv k := by
      intro c hc hne e
      have e0' : es.toList[j] = e0 := (List.getElem?_eq_some_iff.1 h2).2
      rcases Nat.lt_or_gt_of_ne hne with q | q
      · exact hpi c j hc hjl q (by rw [e, e0', h3])
      · exact hpi j c hjl hc q (by rw [e, e0', h3])
    refine ⟨_, by simp [Instr.mapUpdate, run_underlying Try.underlying56, MapKept.run_getObj_map hb, law.check w false hkl, h1, hj, h3, law.stays w hkl, MapKept.run_setObj_map _ hb, Result.andThen]; rfl,
      ⟨es.modify j (fun e' => { e' with key := kv k, val := .int .i64 i }), clock, heap_setBlock_same hb _, ?_, ?_, ?_⟩, gb_block hb⟩
    · intro e hm
      rw [hlist] at hm
      obtain ⟨c, hc, ex⟩ := List.getElem_of_mem hm
      rw [List.getElem_set] at ex
      split at ex
      · subst ex
        exact ⟨k, i, ok, rfl, upd_same f k _, rfl⟩
      · rename_i hne
        have hc' : c < es.toList.length := by simpa using hc
        subst ex
        exact ent _ (List.getElem_mem hc') (other c hc' (fun q => hne q.symm))
    · intro k' ok' hk'
      rw [hlist]
      by_cases q : k' = k
      · subst q
        exact ⟨{ e0 with key := kv k', val := .int .i64 i }, List.mem_iff_getElem.2 ⟨j, by simpa using hjl, by simp⟩, rfl⟩
      · rw [upd_other q] at hk'
        obtain ⟨e, hm, hke⟩ := hf k' ok' hk'
        obtain ⟨c, hc, ex⟩ := List.getElem_of_mem hm
        have hcj : c ≠ j := by
          rintro rfl
          rw [(List.getElem?_eq_some_iff.1 h2).2] at ex
          subst ex
          rw [hke] at h3
          exact q (kv_inj h3)
        refine ⟨e, List.mem_iff_getElem.2 ⟨c, by simpa using hc, ?_⟩, hke⟩
        rw [List.getElem_set, if_neg (fun z => hcj z.symm)]
        exact ex
    · rw [hlist, List.pairwise_iff_getElem]
      intro a c ha hc hac
      have ha' : a < es.toList.length := by simpa using ha
      have hc' : c < es.toList.length := by simpa using hc
      rw [List.getElem_set, List.getElem_set]
      by_cases qa : j = a
      · rw [if_pos qa, if_neg (by omega)]
        exact (fun z => other c hc' (by omega) z.symm)
      · rw [if_neg qa]
        by_cases qc : j = c
        · rw [if_pos qc]
          exact other a ha' (by omega)
        · rw [if_neg qc]
          exact hpi a c ha' hc' hac

theorem Mp.drop {w : World} {b : Nat} {f : Tk → Option Nat} (h : Mp w b f) {k : Tk} (ok : k.ok) (ty : TypeId) :
    ∃ w', (Builtin.delete_ #[56, 33] ty #[.map (some b), kv k]).run Try.prog w = .ok (.tuple #[]) w' ∧ Mp w' b (upd f k none) ∧ w.grownBy w' (some b) := by
  obtain ⟨es, clock, hb, he, hf, hp⟩ := h
  obtain ⟨kl, hkl⟩ := keyOf_kv ok
  have ent : ∀ e ∈ es.toList, e.key ≠ kv k → Ent (upd f k none) e := by
    intro e hm hne
    obtain ⟨k', i', ok', hk', hi', hv'⟩ := he e hm
    refine ⟨k', i', ok', hk', ?_, hv'⟩
    rw [upd_other (fun q => hne (by rw [hk', q]))]
    exact hi'
  have hpi := List.pairwise_iff_getElem.1 hp
  rcases law.find w hkl es.toList (ent_key he) with ⟨h1, h2⟩ | ⟨j, e0, h1, h2, h3⟩
  · refine ⟨_, by simp [Builtin.delete_, run_underlying Try.underlying56, MapKept.run_getObj_map hb, law.check w _ hkl, h1, MapKept.run_setObj_map _ hb, Result.andThen]; rfl, ⟨es, clock, heap_setBlock_same hb _, fun e hm => ent e hm (h2 e hm), ?_, hp⟩, gb_block hb⟩
    intro k' ok' hk'
    by_cases q : k' = k
    · subst q
      rw [upd_same] at hk'
      exact absurd rfl hk'
    · rw [upd_other q] at hk'
      exact hf k' ok' hk'
  · have hjl : j < es.toList.length := (List.getElem?_eq_some_iff.1 h2).1
    have hjs : j < es.size := by simpa using hjl
    have e0' : es.toList[j] = e0 := (List.getElem?_eq_some_iff.1 h2).2
    have hsub : (es.eraseIdxIfInBounds j).toList = es.toList.eraseIdx j := by
      unfold Array.eraseIdxIfInBounds
      rw [dif_pos hjs]
      simp
    refine ⟨_, by simp [Builtin.delete_, run_underlying Try.underlying56, MapKept.run_getObj_map hb, law.check w _ hkl, h1, MapKept.run_setObj_map _ hb, Result.andThen]; rfl, ⟨es.eraseIdxIfInBounds j, clock, heap_setBlock_same hb _, ?_, ?_, ?_⟩, gb_block hb⟩
    · intro e hm
      rw [hsub] at hm
      obtain ⟨c, hne, hc⟩ := List.mem_eraseIdx_iff_getElem?.1 hm
      obtain ⟨hc', ec⟩ := List.getElem?_eq_some_iff.1 hc
      refine ent e ((List.eraseIdx_sublist _ _).subset hm) (fun q => ?_)
      rcases Nat.lt_or_gt_of_ne hne with z | z
      · exact hpi c j hc' hjl z (by rw [ec, e0', h3, q])
      · exact hpi j c hjl hc' z (by rw [ec, e0', h3, q])
    · intro k' ok' hk'
      by_cases q : k' = k
      · subst q
        rw [upd_same] at hk'
        exact absurd rfl hk'
      · rw [upd_other q] at hk'
        obtain ⟨e, hm, hke⟩ := hf k' ok' hk'
        obtain ⟨c, hc, ex⟩ := List.getElem_of_mem hm
        refine ⟨e, ?_, hke⟩
        rw [hsub, List.mem_eraseIdx_iff_getElem?]
        refine ⟨c, ?_, List.getElem?_eq_some_iff.2 ⟨hc, ex⟩⟩
        rintro rfl
        rw [e0'] at ex
        subst ex
        rw [hke] at h3
        exact q (kv_inj h3)
    · rw [hsub]
      exact hp.sublist (List.eraseIdx_sublist _ _)

/-! ### a list of timers in a row of its own -/
theorem cv_length (l : List Tm) : (cv l).length = l.length * 3 := by
  induction l with
  | nil => rfl
  | cons x l ih => simp only [cv, List.flatMap_cons, List.length_append] at ih ⊢; rw [ih]; simp [tv]; omega
theorem cv_append (l m : List Tm) : cv (l ++ m) = cv l ++ cv m := by simp [cv]
theorem cv_split {l : List Tm} {i : Nat} (h : i < l.length) : cv l = cv (l.take i) ++ (tv (ix l i) ++ cv (l.drop (i + 1))) := by
  have e : l = l.take i ++ (ix l i :: l.drop (i + 1)) := by
    have hx : ix l i = l[i] := by unfold ix; rw [List.getD_eq_getElem?_getD, List.getElem?_eq_getElem h]; rfl
    rw [hx, List.getElem_cons_drop, List.take_append_drop]
  conv => lhs; rw [e]
  rw [cv_append]
  simp [cv]
theorem take_len {l : List Tm} {i : Nat} (h : i < l.length) : (cv (l.take i)).length = i * 3 := by rw [cv_length, List.length_take, Nat.min_eq_left (by omega)]
theorem cv_get {l : List Tm} {i j : Nat} {rest : List Value} (h : i < l.length) (hj : j < 3) : (cv l ++ rest)[i * 3 + j]? = (tv (ix l i))[j]? := by
  rw [cv_split h, List.append_assoc, List.getElem?_append_right (by rw [take_len h]; omega), take_len h, List.append_assoc, List.getElem?_append_left (by simp [tv]; omega)]
  congr 1
  omega
theorem cv_set {l : List Tm} {i : Nat} {x : Tm} {rest : List Value} (h : i < l.length) : (cv l ++ rest).take (i * 3) ++ tv x ++ (cv l ++ rest).drop (i * 3 + (tv x).length) = cv (l.set i x) ++ rest := by
  have h3 : ∀ y : Tm, (tv y).length = 3 := fun y => rfl
  have hs : i < (l.set i x).length := by simpa using h
  have e2 : cv (l.set i x) = cv (l.take i) ++ (tv x ++ cv (l.drop (i + 1))) := by
    rw [cv_split hs, ix_set h, if_pos rfl, List.take_set_of_le (Nat.le_refl _), List.drop_set_of_lt (by omega)]
  have e1 := cv_split h
  rw [e2, e1]
  have t1 : ((cv (l.take i) ++ (tv (ix l i) ++ cv (l.drop (i + 1)))) ++ rest).take (i * 3) = cv (l.take i) := by
    rw [List.append_assoc, List.take_left' (take_len h)]
  have t2 : ((cv (l.take i) ++ (tv (ix l i) ++ cv (l.drop (i + 1)))) ++ rest).drop (i * 3 + (tv x).length) = cv (l.drop (i + 1)) ++ rest := by
    have : (cv (l.take i) ++ (tv (ix l i) ++ cv (l.drop (i + 1)))) ++ rest = (cv (l.take i) ++ tv (ix l i)) ++ (cv (l.drop (i + 1)) ++ rest) := by simp
    rw [this, List.drop_left' (by rw [List.length_append, take_len h, h3, h3])]
  rw [t1, t2]
  simp

/-- a list of timers in a slice whose row is the call's own -/
def Ls (T : TypeId) (w : World) (v : Value) (l : List Tm) : Prop := w.ownsRow 0 T 3 v l.length (cv l)
theorem Ls.row {T : TypeId} {w : World} {v : Value} {l : List Tm} (h : Ls T w v l) :
    (v = .slice none 0 0 ∧ l = []) ∨ ∃ g cap rest, v = .slice (some ⟨g, 0, none⟩) l.length cap ∧ Row w g T (cv l ++ rest).toArray ∧ l.length ≤ cap ∧ cap ≤ maxLen ∧ (cv l ++ rest).length = cap * 3 := by
  rcases h.2 with ⟨rfl, h0⟩ | ⟨g, cap, cur, rfl, _, hg, hc, hm, hs, ht⟩
  · exact .inl ⟨rfl, List.eq_nil_of_length_eq_zero h0⟩
  · have e : cv l ++ cur.toList.drop (l.length * 3) = cur.toList := by rw [← ht, List.take_append_drop]
    refine .inr ⟨g, cap, cur.toList.drop (l.length * 3), rfl, ?_, hc, hm, ?_⟩
    · rw [e]
      exact hg
    · rw [e]
      simpa using hs
theorem ls_mk {T : TypeId} {w : World} {g cap : Nat} {l : List Tm} {rest : List Value} (hr : Row w g T (cv l ++ rest).toArray) (hc : l.length ≤ cap) (hm : cap ≤ maxLen) (hs : (cv l ++ rest).length = cap * 3) :
    Ls T w (.slice (some ⟨g, 0, none⟩) l.length cap) l :=
  ⟨cv_length l, .inr ⟨g, cap, _, rfl, Nat.zero_le _, hr, hc, hm, by simpa using hs, by simp [← cv_length]⟩⟩
theorem ls_nil (T : TypeId) (w : World) : Ls T w (.slice none 0 0) [] := World.ownsRow_nil w 0 T 3
theorem Ls.kept {T : TypeId} {w w' : World} {v : Value} {l : List Tm} {F : List Nat} (h : Ls T w v l) (k : Kept F w w') (hF : ∀ g, v.ownBlock = some g → g ∉ F) : Ls T w' v l := by
  rcases h.row with ⟨rfl, rfl⟩ | ⟨g, cap, rest, rfl, hr, hc, hm, hs⟩
  · exact ls_nil T w'
  · exact ls_mk (row_kept hr k (hF g rfl)) hc hm hs
theorem Ls.slice {T : TypeId} {w : World} {v : Value} {l : List Tm} (h : Ls T w v l) : ∃ A c, v = .slice A l.length c ∧ l.length ≤ c := by
  rcases h.row with ⟨rfl, rfl⟩ | ⟨g, cap, rest, rfl, _, hc, _⟩
  · exact ⟨none, 0, rfl, Nat.le_refl _⟩
  · exact ⟨_, cap, rfl, hc⟩
theorem Ls.pop {T : TypeId} {w : World} {A : Option Addr} {n c : Nat} {l : List Tm} {x : Tm} (h : Ls T w (.slice A n c) (l ++ [x])) : Ls T w (.slice A l.length c) l := by
  rcases h.row with ⟨e, h0⟩ | ⟨g, cap, rest, e, hr, hc, hm, hs⟩
  · simp at h0
  · injection e with e1 e2 e3
    subst e1 e3
    rw [cv_append, List.append_assoc] at hr hs
    exact ls_mk hr (by simp at hc; omega) hm hs

theorem tv_one (x : Tm) : ∀ v ∈ tv x, v.oneCell' = true := by
  intro v hv
  simp [tv] at hv
  rcases hv with rfl | rfl | rfl <;> rfl
theorem cv_one (l : List Tm) : ∀ v ∈ cv l, v.oneCell' = true := by
  intro v hv
  obtain ⟨x, _, hx⟩ := List.mem_flatMap.1 hv
  exact tv_one x v hx

/-- a timer is stored whole at a place of the row -/
theorem run_set {P : Program} {w : World} {T g i : Nat} {l : List Tm} {rest : List Value} {x : Tm} (hr : Row w g T (cv l ++ rest).toArray) (hi : i < l.length) (ty : TypeId) (hty : (P.info? ty).map (·.size) = some 3) :
    (Instr.storeAt ty (.pointer (some ⟨g, i * 3, none⟩)) (.agg (tv x).toArray)).run P w = .ok () (w.setRow g (cv (l.set i x) ++ rest).toArray) := by
  have h := run_storeCells_at (P := P) g (i * 3) T (tv x) 0 (cv l ++ rest).toArray w hr (by simp [tv, cv_length]; omega) (tv_one x)
  simp only [Nat.add_zero] at h
  rw [cv_set hi] at h
  cases hq : P.info? ty with
  | none => simp [hq] at hty
  | some inf =>
    have hs : inf.size = 3 := by simpa [hq] using hty
    simp only [Instr.storeAt, Instr.sureAddr, Sem.run_bind, Sem.run_pure, Result.andThen_ok]
    simp [storeVar, sizeOf, typeInfo, hq, Value.cells, hs, tv] at h ⊢
    exact h
/-- .. and loaded -/
theorem run_get {P : Program} {w : World} {T g i : Nat} {l : List Tm} {rest : List Value} {fs : Array Field} (hr : Row w g T (cv l ++ rest).toArray) (hi : i < l.length) (ty : TypeId) (hu : P.underlying ty = some (.struct fs)) (hty : (P.info? ty).map (·.size) = some 3) :
    (Instr.loadAt ty (.pointer (some ⟨g, i * 3, none⟩))).run P w = .ok (.agg (tv (ix l i)).toArray) w := by
  simp only [Instr.loadAt, Instr.sureAddr, Sem.run_bind, Sem.run_pure, Result.andThen]
  have hl : (loadCells ⟨g, i * 3, none⟩ (tv (ix l i)).length).run P w = .ok (tv (ix l i)).toArray w :=
    run_loadCells_list (P := P) w ⟨g, i * 3, none⟩ (tv (ix l i)) (fun j v hv => by
      have hadd : (⟨g, i * 3, none⟩ : Addr).add j = ⟨g, i * 3 + j, none⟩ := by unfold Addr.add; split <;> simp_all
      have hj : j < 3 := (List.getElem?_eq_some_iff.1 hv).1
      rw [hadd, hr.cell, List.getElem?_toArray, cv_get hi hj]
      exact hv)
  cases hq : P.info? ty with
  | none => simp [hq] at hty
  | some inf =>
    have hs : inf.size = 3 := by simpa [hq] using hty
    have hagg : (isAgg ty).run P w = .ok true w := by
      unfold isAgg
      rw [Sem.run_bind, run_underlying hu w]
      simp
    have h3 : (tv (ix l i)).length = 3 := rfl
    rw [h3] at hl
    simp [loadVar, Sem.run_bind, hagg, sizeOf, typeInfo, hq, hs, hl]

/-- its three cells -/
theorem cell_get {w : World} {T g i : Nat} {l : List Tm} {rest : List Value} (hr : Row w g T (cv l ++ rest).toArray) (hi : i < l.length) (j : Nat) (hj : j < 3) : w.cell? ⟨g, i * 3 + j, none⟩ = (tv (ix l i))[j]? := by
  rw [hr.cell, List.getElem?_toArray, cv_get hi hj]

theorem info_q : (Try.prog.info? 61).map (fun i => (i.zero, i.size, i.bytes)) = some (some (.agg #[.int .u8 0, .int .u64 0, .int .u64 0]), 3, 24) := by kernel_rfl
theorem info_r : (Try.prog.info? 69).map (fun i => (i.zero, i.size, i.bytes)) = some (some (.agg #[.int .u8 0, .int .u64 0, .int .u64 0]), 3, 24) := by kernel_rfl
theorem size_q : (Try.prog.info? 61).map (·.size) = some 3 := by kernel_rfl
theorem size_r : (Try.prog.info? 69).map (·.size) = some 3 := by kernel_rfl

/-- one more at the end: what comes of append -/
theorem run_more {S T : TypeId} (hS : Try.prog.underlying S = some (.slice T)) (hT : (Try.prog.info? T).map (fun i => (i.zero, i.size, i.bytes)) = some (some (.agg #[.int .u8 0, .int .u64 0, .int .u64 0]), 3, 24))
    (w : World) (ty : TypeId) (v : Value) (l m : List Tm) (h : Ls T w v l) (a : Addr) (c : Nat) (hm : ∀ j u, (cv m)[j]? = some u → w.cell? (a.add j) = some u) (hn : l.length + m.length ≤ 16777216) :
    ∃ v' w', (Builtin.append_ #[S, S] ty #[v, .slice (some a) m.length c]).run Try.prog w = .ok v' w' ∧ Ls T w' v' (l ++ m) ∧ w.grownBy w' v.ownBlock ∧ (v'.ownBlock = v.ownBlock ∨ v'.ownBlock = some w.heap.size) := by
  obtain ⟨i, hi, hz0, hz1, hz2⟩ := info_parts hT
  obtain ⟨v', w', h1, h2, h3, _, h5⟩ := run_append_own_at (P := Try.prog) w 0 S ty T i _ 3 24 hS hi hz0 hz1 hz2 rfl (by omega) v l.length (cv l) h a m.length c (cv m) (cv_length m) hm (cv_one m) (by unfold maxLen; omega) (by omega) (Nat.zero_le _)
  refine ⟨v', w', h1, ?_, h3, h5⟩
  unfold Ls
  rw [List.length_append, cv_append]
  exact h2
end Go.Proofs.Ytkjgmimfnmilfaa.Tm5
