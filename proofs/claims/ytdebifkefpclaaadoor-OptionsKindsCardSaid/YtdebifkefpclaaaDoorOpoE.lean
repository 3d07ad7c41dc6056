/-
  A name's bytes, by the code.
  Conditions: texts of at most 253 bytes; the library's cell holds a number.
-/
import Derived.Test.YtdebifkefpclaaaDoorOpoI
namespace Go.Proofs.YtdebifkefpclaaaDoor.Oz
set_option maxRecDepth 100000
open Go.RowKit Ops

theorem strCells_bs (s : Str) : Lib.strCells (bs s) = bv (bytesOf s) := by
  unfold Lib.strCells bytesOf
  rw [bs_data]
  simp [bv]
theorem bytesOf_len (s : Str) : (bytesOf s).length = s.length := by simp [bytesOf]
theorem Growstr {w0 w : World} {L : List Blk} {base : Nat} {v : Value} {xs : List Int} (h : Grow w0 w L base v xs) (s : Str) (hn : xs.length + s.length ≤ 16777216) (ty : TypeId) :
    ∃ v' w', (Builtin.append_ #[26, 9] ty #[v, .string (bs s)]).run Tryd.prog w = .ok v' w' ∧ Grow w0 w' L base v' (xs ++ bytesOf s) := by
  obtain ⟨i, hi, hz0, hz1, hz2⟩ := info_parts info_u8
  have hsz := bs_size s
  obtain ⟨v', w', h1, h2, h3, _⟩ := Lib.run_append_own_string (P := Tryd.prog) (w := w) base 26 9 ty 5 i Tryd.underlying26 Tryd.underlying9 hi hz0 hz1 hz2 v xs.length (bv xs) h.own (bs s) (by rw [hsz]; unfold maxLen; omega) (by rw [hsz]; omega) h.hi
  have hb : ∀ k, v.ownBlock = some k → base ≤ k := fun k hk => (World.ownsRow.lt h.own k hk).1
  refine ⟨v', w', h1, ⟨fun x hx => ?_, h.lay.own, h.lay.nd, h.lay.below.grown h3 h.lay.size (fun k hk => by have := hb k hk; have := h.lo; omega)⟩, ?_, h.lo, Nat.le_trans h.hi h3.size, h.fore⟩
  · exact (h.lay.row x hx).gb h3 (fun e => by have := hb _ e.symm; have := h.fore x hx; omega)
  · unfold Own
    rw [strCells_bs, hsz] at h2
    rw [List.length_append, bytesOf_len, show bv (xs ++ bytesOf s) = bv xs ++ bv (bytesOf s) by simp [bv]]
    exact h2
theorem Grow1 {w0 w : World} {L : List Blk} {base : Nat} {v : Value} {xs : List Int} (h : Grow w0 w L base v xs) (x : Int) (hn : xs.length + 1 ≤ 16777216) (ty : TypeId) :
    ∃ v' w', (Builtin.append_ #[26, 26] ty #[v, .slice (some ⟨w.heap.size, 0, none⟩) 1 1]).run Tryd.prog (w.alloc (.cells #[.int .u8 x] 5)) = .ok v' w' ∧ Grow w0 w' L base v' (xs ++ [x]) := by
  have k := h.keep (below_new w (.cells #[.int .u8 x] 5))
  have hr : Row (w.alloc (.cells #[.int .u8 x] 5)) w.heap.size 5 (bv [x]).toArray := row_new rfl
  exact k.append (slc_part hr (part_all _) rfl (Nat.le_refl _)) (by simpa using hn) ty
theorem wpList_app_of {P : Program} {w w' : World} {ops : Array Oper} {rest : List Oper} {o : Oper} {a : Act} {Q : Exit → Act → World → Prop} {t t' : TypeId} {v u r : Value} (hw : Region.wanted o (yielded ops a.tmps) = true) (s x : Operand)
    (ho : o.op = .call { callee := .builtin .append, args := #[s, x], argTypes := #[t, t'] }) (hs : a.eval s = v) (hx : a.eval x = u)
    (hrun : (Builtin.append_ #[t, t'] o.type #[v, u]).run P w = .ok r w') (h : wpList P ops Q rest (a.put o.dst r) w') : wpList P ops Q (o :: rest) a w := by
  refine wpList_wanted hw fun K hK => ?_
  unfold Oper.wp execOp
  simp only [ho, resolve, invoke, builtin, Sem.run_bind, Sem.run_pure, Result.andThen_ok, List.map_toArray, List.map_cons, List.map_nil, hs, hx, hrun]
  exact hK _ _ h

/-- the bytes of the first parts -/
def upTo (s : Str) (j : Nat) : List Int := ((parts s).take j).flatMap (fun p => ((p.length : Int) % 256) :: bytesOf p)
theorem upTo_next {s p : Str} {j : Nat} (h : (parts s)[j]? = some p) : upTo s (j + 1) = upTo s j ++ [((p.length : Int) % 256)] ++ bytesOf p := by
  have : (parts s).take (j + 1) = (parts s).take j ++ [p] := by
    rw [List.take_add_one, h]
    rfl
  unfold upTo
  rw [this]
  simp

set_option linter.unusedSimpArgs false in
set_option maxHeartbeats 2000000 in
theorem nameBytes_any (s : Str) (w : World) (hn : s.length ≤ 253) (hm : Mx w) : Calls Tryd.prog 78 #[.string (bs s)] w fun e w' => ∃ v, e = .returned v ∧ Slc w' v (nameB s) ∧ Below w.heap.size w w' := by
  have K := veil (split_any s w (by omega) hm)
  have HM := veil (parts_many s)
  have HN := veil hn
  go_enter Tryd.func78, Tryd.ntmps78
  go_wp2_with fail
  refine (K.out).mono ?_
  rintro e w1 ⟨g, n, hg, hnn, rfl, hr, q⟩
  have Y := (Lay.begin w).got q (cs := (partsB s).map Value.string) hr hg
  have VG := veil (Grow.begin Y)
  have HNN := veil hnn
  have i3 : (n : Int) ≤ 1000 := by have := HM.out; have := HN.out; omega
  clear K hr q hnn hg Y hn
  obtain ⟨base, hbase⟩ : ∃ b, w1.heap.size = b := ⟨_, rfl⟩
  rw [hbase] at VG
  clear hbase
  go_wp2_with fail
  go_loopw [3, 9] (fun s3 s9 wr => ∃ j : Nat, j ≤ n ∧ s9 = .int .i64 j ∧ Hid (Grow w wr [(g, 9, (partsB s).map Value.string)] base s3 (upTo s j)) ∧ Hid ((upTo s j).length ≤ 254 * j)) (fun _ s9 _ => n - (intOf s9).toNat)
  case atStart => exact ⟨0, Nat.zero_le _, rfl, veil (by simpa [upTo] using VG.out), veil (by simp [upTo])⟩
  case round =>
    rename World => wr
    obtain ⟨j, hj, rfl, VB, hU⟩ := hrel
    clear VG
    by_cases hlt : j < n
    · have ij : (j : Int) < (n : Int) := by omega
      obtain ⟨pb, hpb⟩ : ∃ pb, (partsB s)[j]? = some pb := ⟨_, List.getElem?_eq_getElem (by rw [← HNN.out]; exact hlt)⟩
      obtain ⟨p, hp⟩ : ∃ p, pb.data.toList = p := ⟨_, rfl⟩
      have hps : (parts s)[j]? = some p := by unfold parts; rw [List.getElem?_map, hpb, ← hp]; rfl
      have c1 : wr.cell? ⟨g, j, none⟩ = some (.string (bs p)) := VB.out.lay.look mem0 (by rw [List.getElem?_map, hpb, ← hp, ← bs_of]; rfl)
      have hpl : p.length ≤ 253 := by have := part_size (List.mem_of_getElem? hpb); rw [hp] at this; have := HN.out; omega
      have hsz : (bs p).size = p.length := bs_size p
      have hjn : 254 * j ≤ 70000 := by have := HM.out; have := HN.out; have := HNN.out; omega
      obtain ⟨v2, w2, H2, G2⟩ := Grow1 VB.out ((p.length : Int) % 256) (by have := hU.out; omega) 26
      obtain ⟨v3, w3, H3, G3⟩ := Growstr G2 p (by have := hU.out; simp; omega) 26
      rw [← upTo_next hps] at G3
      have hU3 : Hid ((upTo s (j + 1)).length ≤ 254 * (j + 1)) := veil (by rw [upTo_next hps, List.length_append, List.length_append, bytesOf_len]; have := hU.out; simp; omega)
      have VH2 := veil H2
      have VH3 := veil H3
      have VG3 := veil G3
      obtain ⟨m, hm2⟩ : ∃ m, p.length = m := ⟨_, rfl⟩
      rw [hm2] at hsz VH2 hpl
      have hwm : IntKind.u8.wrap (m : Int) = (m : Int) % 256 := by rw [IntKind.wrap_u8]
      clear hps hp hpb VB hU H2 H3 G2 G3 hm2 hjn
      go_wp2_with (first
        | (at_builtin; refine wpList_append_run rfl (.tmp 13) (.tmp 17) rfl rfl rfl VH2.out ?_)
        | (at_builtin; refine wpList_app_of rfl (.tmp 19) (.tmp 20) rfl rfl rfl VH3.out ?_))
      go_roundw
      case rel => exact ⟨j + 1, by omega, by go_num, VG3, hU3⟩
      case measure => simp [intOf]; omega
    · obtain rfl : j = n := by omega
      have ij : ¬ (j : Int) < (j : Int) := by omega
      obtain ⟨v2, w2, H2, G2⟩ := Grow1 VB.out 0 (by have := hU.out; have := HM.out; have := HN.out; have := HNN.out; omega) 26
      have hfull : upTo s j ++ [0] = nameB s := by
        unfold upTo nameB
        rw [List.take_of_length_le (by simp [parts]; exact Nat.le_of_eq HNN.out.symm)]
      rw [hfull] at G2
      have VH2 := veil H2
      have VG2 := veil G2
      clear H2 G2 hfull VB hU
      go_wp2_with (at_builtin; refine wpList_append_run rfl (.tmp 23) (.tmp 24) rfl rfl rfl VH2.out ?_)
      go_ret
      exact ⟨_, rfl, VG2.out.own.slc, VG2.out.lay.below⟩

end Go.Proofs.YtdebifkefpclaaaDoor.Oz
