/-
  The frame of bytes, by the code: whatever bytes there are.
  Conditions: at most 16000000 bytes.
-/
import Derived.Test.YtihhbniceiammaaFrmN
import Derived.Test.YtihhbniceiammaaLayC
import Derived.Laws.Cover3
namespace Go.Proofs.Ytihhbniceiammaa.Et
open Go.RowKit

/-- what a call of Get answers, where there is no frame -/
def NoFrame (w : World) (x : Int) (e : Ending) (w' : World) : Prop := e = .returned (.tuple #[fv z6 z6 0 (.slice none 0 0), .int .i64 x]) ∧ Below w.heap.size w w'

set_option maxHeartbeats 1000000 in
theorem get_short (A : Option Addr) (n c : Nat) (w : World) (h : n < 14) : Calls Try.prog 19 #[.slice A n c] w (NoFrame w 5) := by
  unfold NoFrame
  obtain ⟨Z, hZ⟩ : ∃ Z, Z = zf := ⟨_, rfl⟩
  have hz : Hid (Z.toList.length = 14) := by rw [hZ]; exact rfl
  have Y := (Lay.begin w).newA Z 27 (g := w.heap.size) rfl
  have T := veil (frm_store (d := z6) (s := z6) (k := 0) (v := .slice none 0 0) Y mem0 hz.out z6_macs rfl)
  have Y1 := veil (Y.put 0 rfl (fc z6 z6 0 (.slice none 0 0)))
  have B := veil none_made
  have M := z6_macs
  clear Y
  generalize z6 = z at *
  generalize Z.toList = ZL at *
  unfold zf at hZ
  subst hZ
  go_enter Try.func19, Try.ntmps19
  go_wp2_with (first
    | (refine wpList_build_of rfl _ _ rfl _ (by simp [Act.eval]) (B.out _) ?_)
    | (refine wpList_store_of rfl _ _ rfl rfl rfl T.out ?_))
  refine bodyPost_ret (ret_row_tmp rfl rfl rfl (Y1.out.range mem0 (part_all _)) Try.underlying27 rfl (sizeFrm M)) rfl ?_
  exact ⟨rfl, Y1.out.below⟩

set_option maxHeartbeats 1000000 in
theorem get_long (A : Option Addr) (n c : Nat) (w : World) (h : 1514 < n) : Calls Try.prog 19 #[.slice A n c] w (NoFrame w 3) := by
  unfold NoFrame
  obtain ⟨Z, hZ⟩ : ∃ Z, Z = zf := ⟨_, rfl⟩
  have hz : Hid (Z.toList.length = 14) := by rw [hZ]; exact rfl
  have Y := (Lay.begin w).newA Z 27 (g := w.heap.size) rfl
  have T := veil (frm_store (d := z6) (s := z6) (k := 0) (v := .slice none 0 0) Y mem0 hz.out z6_macs rfl)
  have Y1 := veil (Y.put 0 rfl (fc z6 z6 0 (.slice none 0 0)))
  have B := veil none_made
  have M := z6_macs
  clear Y
  generalize z6 = z at *
  generalize Z.toList = ZL at *
  unfold zf at hZ
  subst hZ
  go_enter Try.func19, Try.ntmps19
  go_wp2_with (first
    | (refine wpList_build_of rfl _ _ rfl _ (by simp [Act.eval]) (B.out _) ?_)
    | (refine wpList_store_of rfl _ _ rfl rfl rfl T.out ?_))
  refine bodyPost_ret (ret_row_tmp rfl rfl rfl (Y1.out.range mem0 (part_all _)) Try.underlying27 rfl (sizeFrm M)) rfl ?_
  exact ⟨rfl, Y1.out.below⟩

/-- a frame's parts, out of its bytes -/
def gd (zs : List Int) : List Int := zs.take 6
def gs (zs : List Int) : List Int := (zs.drop 6).take 6
def gk (zs : List Int) : Int := num ((zs.drop 12).take 2)
theorem get_macs {zs : List Int} (h : 14 ≤ zs.length) : Macs (gd zs) (gs zs) := ⟨by simp [gd]; omega, by simp [gs]; omega⟩
theorem gk_bound {zs : List Int} (hz : Byt zs) : 0 ≤ gk zs ∧ gk zs < 65536 := by
  have h := num_bound ((zs.drop 12).take 2) ((hz.drop 12).take 2) ((zs.drop 12).take 2).length (Nat.le_refl _)
  rw [List.take_length] at h
  have h2 : ((zs.drop 12).take 2).length ≤ 2 := by simp; omega
  refine ⟨h.1, Int.lt_of_lt_of_le h.2 ?_⟩
  have : (256 : Nat) ^ ((zs.drop 12).take 2).length ≤ 256 ^ 2 := Nat.pow_le_pow_right (by omega) h2
  have e : ((256 ^ ((zs.drop 12).take 2).length : Nat) : Int) = (256 : Int) ^ ((zs.drop 12).take 2).length := by simp
  omega
/-- what a call of Get answers, where there is a frame: its body lies in a block of its own, from place o on, which has room for no more -/
def OneFrame (w : World) (zs : List Int) (e : Ending) (w' : World) : Prop :=
  ∃ b o, w.heap.size ≤ b ∧ o ≤ 14 ∧ e = .returned (.tuple #[fv (gd zs) (gs zs) (gk zs) (.slice (some ⟨b, o, none⟩) (zs.length - 14) (zs.length - 14)), .int .i64 0]) ∧ Row w' b 5 (bv zs).toArray ∧ Rd w' (some ⟨b, o, none⟩) (zs.drop 14) ∧ Below w.heap.size w w'
/-- a part of a frame's variable written anew -/
theorem fc_put0 {d s x : List Int} {k : Int} {v : Value} (h : Macs d s) (hx : x.length = 6) : (fc d s k v).take 0 ++ bv x ++ (fc d s k v).drop (0 + (bv x).length) = fc x s k v := by
  have : (bv x).length = (bv d).length := by rw [bv_length, bv_length, hx, h.d]
  rw [List.take_zero, List.nil_append, Nat.zero_add, this]
  simp [fc]
theorem fc_put6 {d s x : List Int} {k : Int} {v : Value} (h : Macs d s) (hx : x.length = 6) : (fc d s k v).take 6 ++ bv x ++ (fc d s k v).drop (6 + (bv x).length) = fc d x k v := by
  have e : 6 = (bv d).length := by rw [bv_length, h.d]
  have e2 : 6 + (bv x).length = (bv d ++ bv s).length := by rw [List.length_append, bv_length, bv_length, bv_length, hx, h.d, h.s]
  have e3 : fc d s k v = (bv d ++ bv s) ++ [.int .u16 k, v] := by simp [fc]
  have t : (fc d s k v).take 6 = bv d := by unfold fc; rw [e, List.take_left]
  have r : (fc d s k v).drop (6 + (bv x).length) = [.int .u16 k, v] := by rw [e2, e3, List.drop_left]
  rw [t, r]
  simp [fc]
theorem fc_put12 {d s : List Int} {k k' : Int} {v : Value} (h : Macs d s) : (fc d s k v).set 12 (.int .u16 k') = fc d s k' v := by
  unfold fc
  rw [List.set_append_right _ _ (by rw [bv_length, h.d]; omega), List.set_append_right _ _ (by rw [bv_length, bv_length, h.d, h.s]; omega), bv_length, bv_length, h.d, h.s]
  rfl

set_option maxHeartbeats 2000000 in
theorem get_good (A : Option Addr) (n c : Nat) (zs : List Int) (w : World) (hl : zs.length = n) (h1 : 14 ≤ n) (h2 : n ≤ 1514) (hz : Byt zs) (hr : Rd w A zs) : Calls Try.prog 19 #[.slice A n c] w (OneFrame w zs) := by
  obtain ⟨Z, hZ⟩ : ∃ Z, Z = zf := ⟨_, rfl⟩
  have e0 : Hid (Z.toList = fc z6 z6 0 (.slice none 0 0)) := by rw [hZ]; exact rfl
  have Y := (Lay.begin w).newA Z 27 (g := w.heap.size) rfl
  have K := veil (Y.cut A n c hl (by omega) (hr.keep Y.below))
  have VM := veil (get_macs (zs := zs) (by omega))
  have VL := veil hl
  have VZ := veil hz
  have GK := veil (gk_bound hz)
  have hat : ∀ (a : Option Addr) (u : World), (Instr.arrayAt 23 (.slice a 6 6)).run Try.prog u = .ok (.pointer a) u := fun a u => run_arrayAt u 23 5 6 a 6 6 Try.underlying23 (Nat.le_refl _)
  clear Y hl hz hr
  generalize Z.toList = ZL at *
  have i1 : ¬ (n : Int) < 14 := by omega
  have i2 : ¬ (1514 : Int) < (n : Int) := by omega
  have hZ' := hZ
  unfold zf at hZ
  subst hZ
  go_enter Try.func19, Try.ntmps19
  go_wp2_with fail
  refine (K.out).mono ?_
  rintro e w1 ⟨b, hb, rfl, Y1, s1⟩
  clear K hZ'
  obtain ⟨u1, hu1⟩ : ∃ u1, w1.alloc (.cells zf 27) = u1 := ⟨_, rfl⟩
  have Y2 := Y1.newA zf 27 (g := b + 2) s1.symm
  rw [hu1] at Y2
  replace Y2 := veil (show Lay w u1 [(b + 2, 27, fc z6 z6 0 (.slice none 0 0)), (b + 1, 66, ct b 0 n), (b, 5, bv zs), (w.heap.size, 27, ZL)] from Y2)
  have K2 := veil (Y2.out.bytes (i := 1) rfl 6 (by omega) 6 (by rw [if_neg (by omega), Nat.zero_add]))
  clear Y1
  unfold zf at hu1
  subst hu1
  go_wp2_with fail
  refine (K2.out).mono ?_
  rintro e w2 ⟨rfl, Y3, s2⟩
  simp only [List.set_cons_zero, List.set_cons_succ] at Y3
  clear K2 s2 Y2 s1
  have L := veil (Y3.load (P := Try.prog) (ty := 23) mem2 (vs := bv (gd zs)) (part_drop (o := 0) (r := 6)) Try.underlying23 rfl (sizeMac VM.out.d))
  have T := store_part (P := Try.prog) (o := 0) (ty := 23) (vs := bv (gd zs)) (Y3.at mem0) (by rw [fc_len z6_macs, bv_length, VM.out.d]; omega) (sizeMac VM.out.d) (fun _ h => bv_byte h)
  rw [fc_put0 z6_macs VM.out.d] at T
  replace T := veil T
  have Y4 := veil (Y3.put 0 rfl (fc (gd zs) z6 0 (.slice none 0 0)))
  simp only [List.set_cons_zero] at Y4
  have M4 : Hid (Macs (gd zs) z6) := ⟨VM.out.d, rfl⟩
  have K3 := veil (Y4.out.bytes (i := 1) rfl 6 (by omega) 12 (by rw [if_neg (by omega)]))
  clear Y3
  go_wp2_with (first
    | (refine wpList_load_of rfl _ rfl rfl L.out ?_)
    | (refine wpList_store_of rfl _ _ rfl rfl rfl T.out ?_))
  refine (K3.out).mono ?_
  rintro e w3 ⟨rfl, Y5, -⟩
  simp only [List.set_cons_zero, List.set_cons_succ] at Y5
  clear K3 Y4 L T
  have L := veil (Y5.load (P := Try.prog) (ty := 23) mem2 (vs := bv (gs zs)) (part_drop (o := 6) (r := 6)) Try.underlying23 rfl (sizeMac VM.out.s))
  have T := store_part (P := Try.prog) (o := 6) (ty := 23) (vs := bv (gs zs)) (Y5.at mem0) (by rw [fc_len M4.out, bv_length, VM.out.s]; omega) (sizeMac VM.out.s) (fun _ h => bv_byte h)
  rw [fc_put6 M4.out VM.out.s] at T
  replace T := veil T
  have Y6 := veil (Y5.put 0 rfl (fc (gd zs) (gs zs) 0 (.slice none 0 0)))
  simp only [List.set_cons_zero] at Y6
  obtain ⟨o, ho⟩ : ∃ o, (if n - 6 - 6 = 2 then 12 else 12 + 2) = o := ⟨_, rfl⟩
  have K4 := Y6.out.num (i := 1) rfl mem2 (by omega) VZ.out (by rw [VL.out]; omega) 2 (by omega) (by omega) (by omega) o ho
  replace K4 := veil (show Calls Try.prog 29 #[.pointer (some ⟨b + 1, 0, none⟩), .int .i64 2] _ fun e w' => e = .returned (.int .u64 (gk zs)) ∧ Lay w w' _ ∧ _ from K4)
  have HO := veil ho
  clear Y5 ho
  generalize hx : gk zs = x at *
  have hwx : x % 65536 = x := by have := GK.out; omega
  go_wp2_with (first
    | (refine wpList_load_of rfl _ rfl rfl L.out ?_)
    | (refine wpList_store_of rfl _ _ rfl rfl rfl T.out ?_))
  refine (K4.out).mono ?_
  rintro e w4 ⟨rfl, Y7, -⟩
  simp only [List.set_cons_zero, List.set_cons_succ] at Y7
  clear K4 Y6 L T
  have c12 := Y7.look mem0 (fc_kind VM.out)
  have f12 := Y7.free mem0 12
  have Y8 := Y7.cell 0 rfl 12 (.int .u16 x)
  rw [fc_put12 VM.out] at Y8
  replace Y8 := veil (show Lay w (w4.setCell ⟨b + 2, 12, none⟩ (.int .u16 x)) [(b + 2, 27, fc (gd zs) (gs zs) x (.slice none 0 0)), (b + 1, 66, ct b o (n - 6 - 6 - 2)), (b, 5, bv zs), (w.heap.size, 27, ZL)] from Y8)
  have K5 := veil (Y8.out.rest (i := 1) rfl)
  clear Y7
  go_wp2_with fail
  refine (K5.out).mono ?_
  rintro e w5 ⟨rfl, Y9, -⟩
  simp only [List.set_cons_zero, List.set_cons_succ] at Y9
  clear K5 Y8 c12 f12
  have c13 := Y9.look mem0 (fc_body VM.out)
  have f13 := Y9.free mem0 13
  have Y10 := Y9.cell 0 rfl 13 (.slice (some ⟨b, o, none⟩) (n - 6 - 6 - 2) (n - 6 - 6 - 2))
  rw [fc_set VM.out] at Y10
  replace Y10 := veil (show Lay w (w5.setCell ⟨b + 2, 13, none⟩ (.slice (some ⟨b, o, none⟩) (n - 6 - 6 - 2) (n - 6 - 6 - 2))) [(b + 2, 27, fc (gd zs) (gs zs) x (.slice (some ⟨b, o, none⟩) (n - 6 - 6 - 2) (n - 6 - 6 - 2))), (b + 1, 66, ct b o 0), (b, 5, bv zs), (w.heap.size, 27, ZL)] from Y10)
  have L := veil (frmAt Y10.out mem0 VM.out).all
  have T := veil (frm_store (d := gd zs) (s := gs zs) (k := x) (v := .slice (some ⟨b, o, none⟩) (n - 6 - 6 - 2) (n - 6 - 6 - 2)) Y10.out mem3 (by rw [e0.out]; exact fc_len z6_macs) VM.out rfl)
  have Y11 := veil (Y10.out.put 3 rfl (fc (gd zs) (gs zs) x (.slice (some ⟨b, o, none⟩) (n - 6 - 6 - 2) (n - 6 - 6 - 2))))
  simp only [List.set_cons_zero, List.set_cons_succ] at Y11
  clear Y9 Y10
  go_wp2_with (first
    | (refine wpList_load_of rfl _ rfl rfl L.out ?_)
    | (refine wpList_store_of rfl _ _ rfl rfl rfl T.out ?_))
  refine bodyPost_ret (ret_row_tmp rfl rfl rfl (Y11.out.range mem3 (part_all _)) Try.underlying27 rfl (sizeFrm VM.out)) rfl ?_
  refine ⟨b, o, by simp at hb; omega, by rw [← HO.out]; split <;> omega, ?_, Y11.out.at mem2, ?_, Y11.out.below⟩
  · rw [hx, VL.out, show n - 14 = n - 6 - 6 - 2 by omega]
    rfl
  · rcases (by omega : n = 14 ∨ 14 < n) with e | e
    · intro j hj
      simp [VL.out, e] at hj
    · have e2 : o = 14 := by rw [← HO.out, if_neg (by omega)]
      subst e2
      exact rd_row (Y11.out.at mem2) (fun j hj => by
        have := bv_get (zs.drop 14) j hj
        rwa [bv, List.map_drop, List.getElem?_drop] at this)

end Go.Proofs.Ytihhbniceiammaa.Et
