/-
  A prefix that a literal makes of an address and a number; addresses that lie behind one another, stored; loads of single bytes in regions that draw their order.
  Conditions: none.
-/
import Derived.Test.YtcdcdnibligjnaaDoorAdrL
namespace Go.Proofs.YtcdcdnibligjnaaDoor.Ad
open Go.ChangeShapes Go.WideShapes Go.ChangeAt Go.RowKit

theorem rng_tail {w : World} {g o : Nat} {b : Int} {zs : List Int} (h : w.rangeAt g o (bv (b :: zs))) : w.rangeAt g (o + 1) (bv zs) := fun j v hv => by
  have := h (j + 1) v (by simpa [bv] using hv)
  rwa [show o + (j + 1) = o + 1 + j by omega] at this
theorem build_lit (a0 a1 a2 a3 a4 a5 a6 a7 a8 a9 a10 a11 a12 a13 a14 a15 b : Int) (w : World) : (Instr.build 36 #[(0, av [a0, a1, a2, a3, a4, a5, a6, a7, a8, a9, a10, a11, a12, a13, a14, a15]), (1, .int .u8 b)]).run Tryd.prog w = .ok (pv [a0, a1, a2, a3, a4, a5, a6, a7, a8, a9, a10, a11, a12, a13, a14, a15] b) w := by kernel_rfl
theorem build_lit0 (a0 a1 a2 a3 a4 a5 a6 a7 a8 a9 a10 a11 a12 a13 a14 a15 : Int) (w : World) : (Instr.build 36 #[(0, av [a0, a1, a2, a3, a4, a5, a6, a7, a8, a9, a10, a11, a12, a13, a14, a15])]).run Tryd.prog w = .ok (pv [a0, a1, a2, a3, a4, a5, a6, a7, a8, a9, a10, a11, a12, a13, a14, a15] 0) w := by kernel_rfl
theorem build_pv {ys : List Int} (h : ys.length = 16) (b : Int) (w : World) : (Instr.build 36 #[(0, av ys), (1, .int .u8 b)]).run Tryd.prog w = .ok (pv ys b) w := by
  match ys, h with
  | [a0, a1, a2, a3, a4, a5, a6, a7, a8, a9, a10, a11, a12, a13, a14, a15], _ => exact build_lit a0 a1 a2 a3 a4 a5 a6 a7 a8 a9 a10 a11 a12 a13 a14 a15 b w
theorem build_pv0 {ys : List Int} (h : ys.length = 16) (w : World) : (Instr.build 36 #[(0, av ys)]).run Tryd.prog w = .ok (pv ys 0) w := by
  match ys, h with
  | [a0, a1, a2, a3, a4, a5, a6, a7, a8, a9, a10, a11, a12, a13, a14, a15], _ => exact build_lit0 a0 a1 a2 a3 a4 a5 a6 a7 a8 a9 a10 a11 a12 a13 a14 a15 w

theorem open_cut {H : Type} {enc : TypeId × Value → H} {W : World} {base : Nat} {sp : Nat → Bool} {held : Bool} {v : Value} {d : DataW H} {p : List MemPlace} {r : Reach} {b0 : Nat}
    (hv : Value.okWide Tryd.prog W r b0 34 v) (h : DataW.Trod enc Tryd.prog W base sp held 34 v d p) :
    ∃ (b : Nat) (id : List Int), v = .agg (bv ((b : Int) :: id)).toArray ∧ b ≤ 255 ∧ id.length = 8 ∧ Byt id := by
  obtain ⟨cs, rfl, hsz⟩ := okWide_struct Tryd.underlying34 hv
  rw [show Tryd.prog.cellsOf 34 = 9 by kernel_rfl] at hsz
  obtain ⟨fuel, hf⟩ := h
  obtain ⟨xs, n, _, _, hl, hxl, hat⟩ := DataW.trod_struct Tryd.underlying34 hf
  have hx2 : xs.length = 2 := hxl
  have h0 := hat 0 _ rfl
  have h1 := hat 1 _ rfl
  rw [List.getElem?_eq_getElem (by omega)] at h0 h1
  obtain ⟨b, hb, _, hbw⟩ := DataW.trod_int Tryd.underlying5 h0
  have hc8 : Tryd.prog.cellsOf 32 = 8 := by kernel_rfl
  obtain ⟨id, hi, hil, hiw⟩ := ints_of_array Tryd.underlying32 Tryd.underlying5 cellsByte hc8 h1
  have hb' := u8_of hbw
  obtain ⟨b, rfl⟩ := Int.eq_ofNat_of_zero_le hb'.1
  refine ⟨b, id, ?_, by omega, hil, fun z hz => u8_of (hiw z hz)⟩
  have e0 : cs.toList.take 1 = [.int .u8 b] := by
    have hb2 : (cs.toList.drop 0).take (Tryd.prog.cellsOf 5) = [.int .u8 b] := hb
    rw [cellsByte] at hb2
    exact hb2
  have e1 : cs.toList.drop 1 = bv id := by
    have : (cs.toList.drop 1).take (Tryd.prog.cellsOf 32) = bv id := hi
    rw [hc8] at this
    rwa [List.take_of_length_le (by simp [hsz])] at this
  have e : cs.toList = bv ((b : Int) :: id) := by
    rw [← List.take_append_drop 1 cs.toList, e0, e1]
    rfl
  rw [← e]

/-- a variable of sixteen bytes, made and filled -/
theorem At.fill {w0 w : World} {L : List (Nat × List Int)} (h : At w0 w L) (zs : List Int) {Z : Array Value} (t : TypeId) : At w0 ((w.alloc (.cells Z t)).setRow w.heap.size (bv zs).toArray) ((w.heap.size, zs) :: L) := by
  have q := below_setRow (below_new w (.cells Z t)) w.heap.size (bv zs).toArray (Nat.le_refl _)
  have k := h.keep q
  refine ⟨k.knw, fun x hx => ?_, k.below⟩
  rcases List.mem_cons.1 hx with rfl | hx
  · exact rng_row ((row_new rfl).setRow _)
  · exact k.rng x hx
theorem store_new (w : World) {Z : Array Value} (hs : Z.size = 16) {zs : List Int} (hz : zs.length = 16) : (Instr.storeAt 23 (.pointer (some ⟨w.heap.size, 0, none⟩)) (av zs)).run Tryd.prog (w.alloc (.cells Z 23)) = .ok () ((w.alloc (.cells Z 23)).setRow w.heap.size (bv zs).toArray) :=
  store_row (row_new rfl) hs hz
theorem sizeId {zs : List Int} (h : zs.length = 8) : (Tryd.prog.info? 32).map (·.size) = some (bv zs).length := by rw [bv_length, h]; kernel_rfl
theorem load_id {w : World} {g : Nat} {b : Int} {zs : List Int} (h : w.rangeAt g 0 (bv (b :: zs))) (hz : zs.length = 8) : (Instr.loadAt 32 (.pointer (some ⟨g, 1, none⟩))).run Tryd.prog w = .ok (iv zs) w :=
  run_loadAt_mid w g 1 32 (bv zs) _ (rng_tail h) Tryd.underlying32 rfl (sizeId hz)
theorem load_pv {w : World} {g : Nat} {b : Int} {ys : List Int} (h : w.rangeAt g 0 (bv (ys ++ [b]))) (hy : ys.length = 16) : (Instr.loadAt 36 (.pointer (some ⟨g, 0, none⟩))).run Tryd.prog w = .ok (pv ys b) w :=
  run_loadAt_mid w g 0 36 (bv (ys ++ [b])) _ h Tryd.underlying36 rfl (sizePv hy)
theorem store_newP (w : World) {Z : Array Value} (hs : Z.size = 17) {ys : List Int} (hy : ys.length = 16) (b : Int) : (Instr.storeAt 36 (.pointer (some ⟨w.heap.size, 0, none⟩)) (pv ys b)).run Tryd.prog (w.alloc (.cells Z 36)) = .ok () ((w.alloc (.cells Z 36)).setRow w.heap.size (bv (ys ++ [b])).toArray) := by
  have h := row_new (w := w) (g := w.heap.size) (cs := Z) (t := 36) rfl
  simp only [Instr.storeAt, Instr.sureAddr, Sem.run_bind, Sem.run_pure, Result.andThen]
  exact run_storeVar_row _ _ _ _ _ _ h (by rw [size17]; simp [bv, hy]) (by simp [bv, hy, hs]) (by simp [bv, Value.oneCell'])
/-- a value that a literal makes, in a region that draws its order -/
theorem yieldsIf_build {P : Program} {ops : Array Oper} {S : World → Prop} {op : Oper} {a : Act} {v : Value} (hw : Region.wanted op (yielded ops a.tmps) = true) (t : TypeId) (ps : Array (Nat × Operand)) (ho : op.op = .build t ps) (vs : Array (Nat × Value)) (hx : ps.map (fun p => (p.1, a.eval p.2)) = vs)
    (hrun : ∀ w, (Instr.build t vs).run P w = .ok v w) : YieldsIf P ops S op v a :=
  .inl ⟨hw, fun w _ => by
    unfold execOp
    simp only [ho, hx, hrun, Sem.run_bind, Sem.run_pure, Result.andThen_ok]⟩
/-- a byte's load, likewise -/
theorem At.byte {w0 w : World} {L : List (Nat × List Int)} (h : At w0 w L) {g : Nat} {xs : List Int} (hm : (g, xs) ∈ L) {j : Nat} (hj : j < xs.length) : w.cell? ⟨g, j, none⟩ = some (.int .u8 (xs.getD j 0)) := rng_at (h.rng _ hm) hj

end Go.Proofs.YtcdcdnibligjnaaDoor.Ad
