/-
  A frame's twin is told to be as it was made; the link's address of a group, by the code and by the document's answer.
  Conditions: addresses of six bytes, of sixteen; bodies that read as the same bytes.
-/
import Derived.Test.YtihhbniceiammaaFrmM
import Derived.Deep.RegionHeld3
import Derived.Deep.RegionLaw
import Derived.BigRegion
namespace Go.Proofs.Ytihhbniceiammaa.Et
open Go.RowKit

set_option maxHeartbeats 1000000 in
theorem leftFrame_true (d s : List Int) (k : Int) (g : Nat) (B : Option Addr) (n c c' : Nat) (zs : List Int) (w : World) (M : Macs d s) (hl : zs.length = n) (hn : n ≤ 16000000) (ht : TwinAt w g zs) (hb : Rd w B zs) (hc : n + 4 ≤ c) :
    Calls Try.prog 13 #[fv d s k (.slice (some ⟨g, 0, none⟩) n c), fv d s k (.slice B n c')] w fun e w' => e = .returned (.bool true) ∧ Below w.heap.size w w' := by
  have Y := ((Lay.begin w).new (fc d s k (.slice (some ⟨g, 0, none⟩) n c)) 27 rfl).new (fc d s k (.slice B n c')) 27 (g := w.heap.size + 1) (by simp)
  have F0 := veil (frmAt Y mem1 M)
  have F1 := veil (frmAt Y mem0 M)
  have HT := veil (Row.keep (w' := (w.alloc (.cells (fc d s k (.slice (some ⟨g, 0, none⟩) n c)).toArray 27)).alloc (.cells (fc d s k (.slice B n c')).toArray 27)) ht Y.below)
  have HB := veil (hb.keep Y.below)
  have S := veil (sameFrame_true d s k (some ⟨g, 0, none⟩) B n c c' zs ((w.alloc (.cells (fc d s k (.slice (some ⟨g, 0, none⟩) n c)).toArray 27)).alloc (.cells (fc d s k (.slice B n c')).toArray 27)) M hl (by unfold maxLen; omega) (TwinAt.rd HT.out) HB.out)
  have VY := veil Y
  have VM := veil M
  have VL := veil hl
  clear Y ht hb hl M
  go_enter Try.func13, Try.ntmps13
  go_wp2_with (first
    | (refine wpList_load_of rfl _ rfl rfl F0.out.all ?_)
    | (refine wpList_load_of rfl _ rfl rfl F1.out.all ?_))
  refine (S.out).mono ?_
  rintro e w1 ⟨rfl, q⟩
  have Y := VY.out.keep q
  have T := veil (leftBytes_true g B n c c' zs w1 VL.out hn (Row.keep HT.out q) (HB.out.keep q) hc)
  have b0 := (frmAt Y mem1 VM.out).body
  have b1 := (frmAt Y mem0 VM.out).body
  have VY := veil Y
  clear q S F0 F1 Y HT HB
  go_wp2_with fail
  refine (T.out).mono ?_
  rintro e w2 ⟨rfl, hs⟩
  have VY := veil (VY.out.still hs)
  clear hs T b0 b1
  go_wp2_with fail
  go_ret
  exact ⟨rfl, VY.out.below⟩

/-- the link's address of a group -/
def grp (xs : List Int) : List Int := 51 :: 51 :: xs.drop 12
theorem grp_len {xs : List Int} (h : xs.length = 16) : (grp xs).length = 6 := by simp [grp, h]
theorem sizeAddr {xs : List Int} (h : xs.length = 16) : (Try.prog.info? 29).map (·.size) = some (bv xs).length := by rw [bv_length, h]; kernel_rfl
theorem lit51 (w : World) : (Instr.build 23 #[(0, .int .u8 51), (1, .int .u8 51)]).run Try.prog w = .ok (av [51, 51, 0, 0, 0, 0]) w := by kernel_rfl

set_option maxHeartbeats 1000000 in
theorem group_any (xs : List Int) (w : World) (hx : xs.length = 16) : Calls Try.prog 14 #[av xs] w fun e w' => e = .returned (av (grp xs)) ∧ Below w.heap.size w w' := by
  obtain ⟨Z, hZ⟩ : ∃ Z : Array Value, Z = #[.int .u8 0, .int .u8 0, .int .u8 0, .int .u8 0, .int .u8 0, .int .u8 0] := ⟨_, rfl⟩
  have hz : Hid (Z.toList.length = 6) := by rw [hZ]; exact rfl
  have Y := (((Lay.begin w).new (bv xs) 29 rfl).newA Z 23 (g := w.heap.size + 1) (by simp)).newA Z 23 (g := w.heap.size + 1 + 1) (by simp)
  obtain ⟨m, hm⟩ : ∃ m : List Int, m = [51, 51, 0, 0, 0, 0] := ⟨_, rfl⟩
  have hml : m.length = 6 := by rw [hm]; rfl
  have B := veil (fun u => lit51 u)
  rw [← hm] at B
  have T := veil (store_all (P := Try.prog) (ty := 23) (vs := bv m) (Y.at mem0) (by rw [bv_length, hml, hz.out]) (sizeMac hml) (fun _ h => bv_byte h))
  have Y1 := veil (Y.put 0 rfl (bv m))
  obtain ⟨w1, hw1⟩ : ∃ w1, (((w.alloc (.cells (bv xs).toArray 29)).alloc (.cells Z 23)).alloc (.cells Z 23)).setRow (w.heap.size + 1 + 1) (bv m).toArray = w1 := ⟨_, rfl⟩
  rw [hw1] at T Y1
  have HX := veil hx
  have HM := veil hm
  clear Y hx hm hw1
  generalize Z.toList = ZL at *
  subst hZ
  go_enter Try.func14, Try.ntmps14
  go_wp2_with (first
    | (refine wpList_build_of rfl _ _ rfl _ (by simp [Act.eval]) (B.out _) ?_)
    | (refine wpList_store_of rfl _ _ rfl rfl rfl T.out ?_))
  clear T B
  simp only [List.set_cons_zero] at Y1
  have D := veil Y1.out.drew
  have r0 : Rd w1.drew (some ⟨w.heap.size, 12, none⟩) (xs.drop 12) := rd_row (D.out.at mem2) (fun j hj => by
    have := bv_get (xs.drop 12) j hj
    rwa [bv, List.map_drop, List.getElem?_drop] at this)
  have C := veil (run_copy_at (w.heap.size + 1 + 1) 2 4 4 23 (bv m) (some ⟨w.heap.size, 12, none⟩) 4 4 (xs.drop 12) w1.drew 3 (by simp [HX.out]) r0 (by omega) (D.out.at mem0) (by omega) (by rw [bv_length, hml]; omega))
  have e : (bv m).take 2 ++ bv (xs.drop 12) ++ (bv m).drop (2 + 4) = bv (grp xs) := by
    rw [HM.out]
    simp [bv, grp]
  rw [e] at C
  have Y2 := veil (D.out.put 0 rfl (bv (grp xs)))
  simp only [List.set_cons_zero] at Y2
  have hgl := grp_len HX.out
  clear e r0 D Y1 HM hml
  go_region_law (refine step_copy_of rfl (.tmp 5) (.tmp 6) rfl rfl rfl C.out ?_)
  clear C
  have L := veil (Y2.out.load (P := Try.prog) (ty := 23) mem0 (part_all _) Try.underlying23 rfl (sizeMac hgl))
  have T := veil (store_all (P := Try.prog) (ty := 23) (vs := bv (grp xs)) (Y2.out.at mem1) (by rw [bv_length, hgl, hz.out]) (sizeMac hgl) (fun _ h => bv_byte h))
  have Y3 := veil (Y2.out.put 1 rfl (bv (grp xs)))
  clear Y2
  go_wp2_with (first
    | (refine wpList_load_of rfl _ rfl rfl L.out ?_)
    | (refine wpList_store_of rfl _ _ rfl rfl rfl T.out ?_))
  refine bodyPost_ret (ret_row rfl rfl (Y3.out.range mem1 (part_all _)) Try.underlying23 rfl (sizeMac hgl)) rfl ?_
  exact ⟨rfl, Y3.out.below⟩

theorem grp_lit (a b c d : Int) (w : World) : (Instr.build 23 #[(0, .int .u8 51), (1, .int .u8 51), (2, .int .u8 a), (3, .int .u8 b), (4, .int .u8 c), (5, .int .u8 d)]).run Try.prog w = .ok (av [51, 51, a, b, c, d]) w := by kernel_rfl
theorem grp_of (xs : List Int) (h : xs.length = 16) : grp xs = [51, 51, xs.getD 12 0, xs.getD 13 0, xs.getD 14 0, xs.getD 15 0] := by
  match xs, h with
  | [a0, a1, a2, a3, a4, a5, a6, a7, a8, a9, a10, a11, a12, a13, a14, a15], _ => rfl

set_option maxHeartbeats 1000000 in
theorem refGroup_any (xs : List Int) (w : World) (hx : xs.length = 16) : Calls Try.prog 15 #[av xs] w fun e w' => e = .returned (av (grp xs)) ∧ Below w.heap.size w w' := by
  obtain ⟨Z, hZ⟩ : ∃ Z : Array Value, Z = #[.int .u8 0, .int .u8 0, .int .u8 0, .int .u8 0, .int .u8 0, .int .u8 0] := ⟨_, rfl⟩
  have hz : Hid (Z.toList.length = 6) := by rw [hZ]; exact rfl
  have Y := ((Lay.begin w).new (bv xs) 29 rfl).newA Z 23 (g := w.heap.size + 1) (by simp)
  have c0 := Y.look mem1 (bv_get xs 12 (by omega))
  have c1 := Y.look mem1 (bv_get xs 13 (by omega))
  have c2 := Y.look mem1 (bv_get xs 14 (by omega))
  have c3 := Y.look mem1 (bv_get xs 15 (by omega))
  have B := veil (fun u => grp_lit (xs.getD 12 0) (xs.getD 13 0) (xs.getD 14 0) (xs.getD 15 0) u)
  rw [← grp_of xs hx] at B
  have hgl := grp_len hx
  have T := veil (store_all (P := Try.prog) (ty := 23) (vs := bv (grp xs)) (Y.at mem0) (by rw [bv_length, hgl, hz.out]) (sizeMac hgl) (fun _ h => bv_byte h))
  have Y1 := veil (Y.put 0 rfl (bv (grp xs)))
  clear Y hx
  generalize grp xs = m at *
  generalize Z.toList = ZL at *
  generalize xs.getD 12 0 = x12 at *
  generalize xs.getD 13 0 = x13 at *
  generalize xs.getD 14 0 = x14 at *
  generalize xs.getD 15 0 = x15 at *
  subst hZ
  go_enter Try.func15, Try.ntmps15
  go_wp2_with (first
    | (refine wpList_build_of rfl _ _ rfl _ (by simp [Act.eval]) (B.out _) ?_)
    | (refine wpList_store_of rfl _ _ rfl rfl rfl T.out ?_))
  refine bodyPost_ret (ret_row rfl rfl (Y1.out.range mem0 (part_all _)) Try.underlying23 rfl (sizeMac hgl)) rfl ?_
  exact ⟨rfl, Y1.out.below⟩

end Go.Proofs.Ytihhbniceiammaa.Et
