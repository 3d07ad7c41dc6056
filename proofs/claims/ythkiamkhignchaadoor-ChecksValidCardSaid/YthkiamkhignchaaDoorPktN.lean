/-
  A packet's twin, and that it is as it was made.
  Conditions: addresses of sixteen bytes; bodies that read as the same bytes.
-/
import Derived.Test.YthkiamkhignchaaDoorPktM
namespace Go.Proofs.YthkiamkhignchaaDoor.Hd
set_option maxRecDepth 100000
open Go.RowKit

/-- a variable for a packet, as it is made -/
def zp : Array Value := #[.int .u8 0, .int .u8 0, .int .u8 0, .int .u8 0, .int .u8 0, .int .u8 0, .int .u8 0, .int .u8 0, .int .u8 0, .int .u8 0, .int .u8 0, .int .u8 0, .int .u8 0, .int .u8 0, .int .u8 0, .int .u8 0, .int .u8 0, .int .u8 0, .int .u8 0, .int .u8 0, .int .u8 0, .int .u8 0, .int .u8 0, .int .u8 0, .int .u8 0, .int .u8 0, .int .u8 0, .int .u8 0, .int .u8 0, .int .u8 0, .int .u8 0, .int .u8 0, .int .u8 0, .bool false, .bool false, .int .u32 0, .int .u16 0, .bool false, .int .u8 0, .slice none 0 0]
def z16 : List Int := [0, 0, 0, 0, 0, 0, 0, 0, 0, 0, 0, 0, 0, 0, 0, 0]
def noPk : Pk := { s := z16, d := z16 }
theorem zp_pc : zp = (pc noPk (.slice none 0 0)).toArray := rfl
theorem noPk_ends : Ends noPk := ⟨rfl, rfl⟩
theorem pkt_made (w : World) : (Instr.build 30 #[]).run Tryd.prog w = .ok (pv noPk (.slice none 0 0)) w := by unfold pv; rw [← zp_pc]; unfold zp; kernel_rfl
theorem pc_set {k : Pk} {v u : Value} (h : Ends k) : (pc k v).set 39 u = pc k u := by
  unfold pc
  rw [List.set_append_right _ _ (by rw [bv_length, h.s]; omega), List.set_append_right _ _ (by rw [bv_length, bv_length, h.s, h.d]; omega), bv_length, bv_length, h.s, h.d]
  rfl
/-- a whole packet goes into a variable -/
theorem pkt_store {w0 w : World} {L : List Blk} {g : Nat} {t : TypeId} {cs : List Value} {k : Pk} {v : Value} (h : Lay w0 w L) (hm : (g, t, cs) ∈ L) (hc : cs.length = 40) (M : Ends k) (hv : v.oneCell' = true) :
    (Instr.storeAt 30 (.pointer (some ⟨g, 0, none⟩)) (pv k v)).run Tryd.prog w = .ok () (w.setRow g (pc k v).toArray) :=
  store_all (h.at hm) (by rw [pc_len M, hc]) (sizePkt M) (pc_one hv)

theorem twinB (A : Option Addr) (n c : Nat) (zs : List Int) (w : World) (hl : zs.length = n) (hn : n ≤ 16000000) (hr : Rd w A zs) :
    Calls Tryd.prog 21 #[.slice A n c] w fun e w' => ∃ g, w.heap.size ≤ g ∧ e = .returned (.slice (some ⟨g, 0, none⟩) n (n + 4)) ∧ TwinAt w' g zs ∧ Below w.heap.size w w' :=
  (twinBytes_any A n c zs w hl hn hr).mono fun _ _ ⟨he, hw⟩ => ⟨_, Nat.le_refl _, he, by subst hw; exact row_new rfl, by subst hw; exact below_new _ _⟩

set_option maxHeartbeats 1000000 in
theorem twinPacket_any (k : Pk) (A : Option Addr) (n c : Nat) (zs : List Int) (w : World) (M : Ends k) (hl : zs.length = n) (hn : n ≤ 16000000) (ha : Rd w A zs) :
    Calls Tryd.prog 9 #[pv k (.slice A n c)] w fun e w' => ∃ g, w.heap.size ≤ g ∧ e = .returned (pv k (.slice (some ⟨g, 0, none⟩) n (n + 4))) ∧ TwinAt w' g zs ∧ Below w.heap.size w w' := by
  obtain ⟨Z, hZ⟩ : ∃ Z, Z = zp := ⟨_, rfl⟩
  have hz : Hid (Z.toList.length = 40) := by rw [hZ]; exact rfl
  have Y := ((Lay.begin w).new (pc k (.slice A n c)) 30 rfl).newA Z 30 (g := w.heap.size + 1) (by simp)
  have b0 := (pktAt Y mem1 M).body
  have T := veil (twinB A n c zs _ hl hn (ha.keep Y.below))
  have VY := veil Y
  have VM := veil M
  have VL := veil hl
  clear Y ha hl M
  unfold zp at hZ
  go_enter Tryd.func9, Tryd.ntmps9
  obtain ⟨w1, hw1⟩ : ∃ w1, (w.alloc (.cells (pc k (.slice A n c)).toArray 30)).alloc (.cells Z 30) = w1 := ⟨_, rfl⟩
  rw [hw1] at b0 T VY
  generalize Z.toList = ZL at *
  subst hw1 hZ
  go_wp2_with fail
  clear b0
  refine (T.out).mono ?_
  rintro e w2 ⟨g, hg, rfl, t2, q2⟩
  have Y2 := VY.out.got q2 t2 hg
  clear T q2 t2 VY
  have f2 := Y2.free mem2 39
  have c2 := Y2.look mem2 (pc_body VM.out)
  have Y3 := veil (Y2.cell 2 rfl 39 (.slice (some ⟨g, 0, none⟩) n (n + 4)))
  simp only [List.set_cons_succ, List.set_cons_zero, pc_set VM.out] at Y3
  have L3 := veil (pktAt Y3.out mem2 VM.out).all
  have T3 := veil (pkt_store (k := k) (v := .slice (some ⟨g, 0, none⟩) n (n + 4)) Y3.out mem1 hz.out VM.out rfl)
  have Y4 := veil (Y3.out.put 1 rfl (pc k (.slice (some ⟨g, 0, none⟩) n (n + 4))))
  clear Y2
  go_wp2_with (first
    | (refine wpList_load_of rfl _ rfl rfl L3.out ?_)
    | (refine wpList_store_of rfl _ _ rfl rfl rfl T3.out ?_))
  refine bodyPost_ret (ret_row rfl rfl (Y4.out.range mem1 (part_all _)) Tryd.underlying30 rfl (sizePkt VM.out)) rfl ?_
  exact ⟨g, by have := hg; simp at this; omega, rfl, Y4.out.at mem0, Y4.out.below⟩


set_option maxHeartbeats 1000000 in
theorem leftPacket_true (k : Pk) (g : Nat) (B : Option Addr) (n c c' : Nat) (zs : List Int) (w : World) (M : Ends k) (hl : zs.length = n) (hn : n ≤ 16000000) (ht : TwinAt w g zs) (hb : Rd w B zs) (hc : n + 4 ≤ c) :
    Calls Tryd.prog 13 #[pv k (.slice (some ⟨g, 0, none⟩) n c), pv k (.slice B n c')] w fun e w' => e = .returned (.bool true) ∧ Below w.heap.size w w' := by
  have Y := ((Lay.begin w).new (pc k (.slice (some ⟨g, 0, none⟩) n c)) 30 rfl).new (pc k (.slice B n c')) 30 (g := w.heap.size + 1) (by simp)
  have F0 := veil (pktAt Y mem1 M)
  have F1 := veil (pktAt Y mem0 M)
  have HT := veil (Row.keep (w' := (w.alloc (.cells (pc k (.slice (some ⟨g, 0, none⟩) n c)).toArray 30)).alloc (.cells (pc k (.slice B n c')).toArray 30)) ht Y.below)
  have HB := veil (hb.keep Y.below)
  have S := veil (samePacket_true k (some ⟨g, 0, none⟩) B n c c' zs ((w.alloc (.cells (pc k (.slice (some ⟨g, 0, none⟩) n c)).toArray 30)).alloc (.cells (pc k (.slice B n c')).toArray 30)) M hl (by unfold maxLen; omega) (TwinAt.rd HT.out) HB.out)
  have VY := veil Y
  have VM := veil M
  have VL := veil hl
  clear Y ht hb hl M
  go_enter Tryd.func13, Tryd.ntmps13
  go_wp2_with (first
    | (refine wpList_load_of rfl _ rfl rfl F0.out.all ?_)
    | (refine wpList_load_of rfl _ rfl rfl F1.out.all ?_))
  refine (S.out).mono ?_
  rintro e w1 ⟨rfl, q⟩
  have Y := VY.out.keep q
  have T := veil (leftBytes_true g B n c c' zs w1 VL.out hn (Row.keep HT.out q) (HB.out.keep q) hc)
  have b0 := (pktAt Y mem1 VM.out).body
  have b1 := (pktAt Y mem0 VM.out).body
  have VY := veil Y
  clear q S F0 F1 Y HT HB
  go_wp2_with fail
  refine (T.out).mono ?_
  rintro e w2 ⟨rfl, hs⟩
  have VY := veil (VY.out.still hs)
  clear hs T b0 b1
  go_wp2_with fail
  go_ret
  exact ⟨rfl, VY.out.below⟩


end Go.Proofs.YthkiamkhignchaaDoor.Hd
