/-
  Frames in memory: by value, their parts loaded; two frames with the same parts are told the same.
  Conditions: addresses of six bytes; bodies that read as the same bytes.
-/
import Derived.Test.YtihhbniceiammaaArr
import Derived.Test.YtihhbniceiammaaTwin
namespace Go.Proofs.Ytihhbniceiammaa.Et
open Go.RowKit

/-- a frame's cells -/
def fc (d s : List Int) (k : Int) (v : Value) : List Value := bv d ++ (bv s ++ [.int .u16 k, v])
/-- a frame by value -/
abbrev fv (d s : List Int) (k : Int) (v : Value) : Value := .agg (fc d s k v).toArray
/-- two addresses of six bytes -/
structure Macs (d s : List Int) : Prop where
  d : d.length = 6
  s : s.length = 6

section
variable {d s : List Int} {k : Int} {v : Value}
theorem fc_len (h : Macs d s) : (fc d s k v).length = 14 := by simp [fc, bv_length, h.d, h.s]
theorem fc_dst : Part (fc d s k v) 0 (bv d) := part_head _ _
theorem fc_src (h : Macs d s) : Part (fc d s k v) 6 (bv s) := part_mid _ _ _ (bv_len h.d)
theorem fc_kind (h : Macs d s) : (fc d s k v)[12]? = some (.int .u16 k) := by
  have := part_tail (bv d ++ bv s) [.int .u16 k, v] (o := 12) (by simp [bv_length, h.d, h.s]) 0 _ rfl
  rwa [List.append_assoc] at this
theorem fc_body (h : Macs d s) : (fc d s k v)[13]? = some v := by
  have := part_tail (bv d ++ bv s) [.int .u16 k, v] (o := 12) (by simp [bv_length, h.d, h.s]) 1 _ rfl
  rwa [List.append_assoc] at this
theorem fc_one (hv : v.oneCell' = true) : ∀ x ∈ fc d s k v, x.oneCell' = true := fun x hx => by
  simp only [fc, List.mem_append, List.mem_cons, List.not_mem_nil, or_false] at hx
  rcases hx with hx | hx | rfl | rfl
  · exact bv_byte hx
  · exact bv_byte hx
  · rfl
  · exact hv
theorem sizeMac {xs : List Int} (h : xs.length = 6) : (Try.prog.info? 23).map (·.size) = some (bv xs).length := by rw [bv_length, h]; kernel_rfl
theorem sizeFrm (h : Macs d s) : (Try.prog.info? 27).map (·.size) = some (fc d s k v).length := by rw [fc_len h]; kernel_rfl
theorem mac_eql (w : World) {xs ys : List Int} (hx : xs.length = 6) (hy : ys.length = 6) {z : Bool} (hz : decide (xs = ys) = z) : (binOp .eql 23 (av xs) (av ys)).run Try.prog w = .ok (.bool z) w := arr_eql Try.underlying23 w hx hy hz
theorem mac_neq (w : World) {xs ys : List Int} (hx : xs.length = 6) (hy : ys.length = 6) {z : Bool} (hz : decide (xs = ys) = z) : (binOp .neq 23 (av xs) (av ys)).run Try.prog w = .ok (.bool (!z)) w := arr_neq Try.underlying23 w hx hy hz
end

/-- what a frame that lies whole in a block gives the walk -/
structure FrmAt (w : World) (g : Nat) (d s : List Int) (k : Int) (v : Value) : Prop where
  dst : (Instr.loadAt 23 (.pointer (some ⟨g, 0, none⟩))).run Try.prog w = .ok (av d) w
  src : (Instr.loadAt 23 (.pointer (some ⟨g, 6, none⟩))).run Try.prog w = .ok (av s) w
  kind : w.cell? ⟨g, 12, none⟩ = some (.int .u16 k)
  body : w.cell? ⟨g, 13, none⟩ = some v
  all : (Instr.loadAt 27 (.pointer (some ⟨g, 0, none⟩))).run Try.prog w = .ok (fv d s k v) w
theorem frmAt {w0 w : World} {L : List Blk} {g : Nat} {t : TypeId} {d s : List Int} {k : Int} {v : Value} (h : Lay w0 w L) (hm : (g, t, fc d s k v) ∈ L) (M : Macs d s) : FrmAt w g d s k v :=
  ⟨h.load hm fc_dst Try.underlying23 rfl (sizeMac M.d), h.load hm (fc_src M) Try.underlying23 rfl (sizeMac M.s), h.look hm (fc_kind M), h.look hm (fc_body M), h.load hm (part_all _) Try.underlying27 rfl (sizeFrm M)⟩

set_option maxHeartbeats 1000000 in
theorem sameFrame_true (d s : List Int) (k : Int) (A B : Option Addr) (n c c' : Nat) (zs : List Int) (w : World) (M : Macs d s) (hl : zs.length = n) (hn : n ≤ maxLen) (ha : Rd w A zs) (hb : Rd w B zs) :
    Calls Try.prog 21 #[fv d s k (.slice A n c), fv d s k (.slice B n c')] w fun e w' => e = .returned (.bool true) ∧ Below w.heap.size w w' := by
  have Y := ((Lay.begin w).new (fc d s k (.slice A n c)) 27 rfl).new (fc d s k (.slice B n c')) 27 (g := w.heap.size + 1) (by simp)
  have F0 := veil (frmAt Y mem1 M)
  have F1 := veil (frmAt Y mem0 M)
  have k0 := F0.out.kind
  have k1 := F1.out.kind
  have b0 := F0.out.body
  have b1 := F1.out.body
  have E1 : ∀ u, (binOp .eql 23 (av d) (av d)).run Try.prog u = .ok (.bool true) u := fun u => mac_eql u M.d M.d (by simp)
  have E2 : ∀ u, (binOp .eql 23 (av s) (av s)).run Try.prog u = .ok (.bool true) u := fun u => mac_eql u M.s M.s (by simp)
  have S := veil (same_eq A B n c c' zs ((w.alloc (.cells (fc d s k (.slice A n c)).toArray 27)).alloc (.cells (fc d s k (.slice B n c')).toArray 27)) hl hn (ha.keep Y.below) (hb.keep Y.below))
  have Q := veil Y.below
  clear Y ha hb M
  go_enter Try.func21, Try.ntmps21
  go_wp2_with (first
    | (refine wpList_load_of rfl _ rfl rfl F0.out.dst ?_)
    | (refine wpList_load_of rfl _ rfl rfl F1.out.dst ?_)
    | (refine wpList_load_of rfl _ rfl rfl F0.out.src ?_)
    | (refine wpList_load_of rfl _ rfl rfl F1.out.src ?_))
  refine (S.out).mono ?_
  rintro e w1 ⟨rfl, hs⟩
  have Q1 := veil (below_still Q.out hs)
  clear hs S F0 F1 k0 k1 b0 b1 Q
  go_wp2_with fail
  go_ret
  exact ⟨rfl, Q1.out⟩

theorem fc_set {d s : List Int} {k : Int} {v u : Value} (h : Macs d s) : (fc d s k v).set 13 u = fc d s k u := by
  unfold fc
  rw [List.set_append_right _ _ (by rw [bv_length, h.d]; omega), List.set_append_right _ _ (by rw [bv_length, bv_length, h.d, h.s]; omega), bv_length, bv_length, h.d, h.s]
  rfl
/-- a variable for a frame, as it is made -/
def zf : Array Value := #[.int .u8 0, .int .u8 0, .int .u8 0, .int .u8 0, .int .u8 0, .int .u8 0, .int .u8 0, .int .u8 0, .int .u8 0, .int .u8 0, .int .u8 0, .int .u8 0, .int .u16 0, .slice none 0 0]
def z6 : List Int := [0, 0, 0, 0, 0, 0]
theorem zf_fc : zf = (fc z6 z6 0 (.slice none 0 0)).toArray := rfl
theorem z6_macs : Macs z6 z6 := ⟨rfl, rfl⟩
theorem none_made (w : World) : (Instr.build 27 #[]).run Try.prog w = .ok (fv z6 z6 0 (.slice none 0 0)) w := by unfold fv; rw [← zf_fc]; unfold zf; kernel_rfl
/-- a whole frame goes into a variable -/
theorem frm_store {w0 w : World} {L : List Blk} {g : Nat} {t : TypeId} {cs : List Value} {d s : List Int} {k : Int} {v : Value} (h : Lay w0 w L) (hm : (g, t, cs) ∈ L) (hc : cs.length = 14) (M : Macs d s) (hv : v.oneCell' = true) :
    (Instr.storeAt 27 (.pointer (some ⟨g, 0, none⟩)) (fv d s k v)).run Try.prog w = .ok () (w.setRow g (fc d s k v).toArray) :=
  store_all (h.at hm) (by rw [fc_len M, hc]) (sizeFrm M) (fc_one hv)

theorem twinB (A : Option Addr) (n c : Nat) (zs : List Int) (w : World) (hl : zs.length = n) (hn : n ≤ 16000000) (hr : Rd w A zs) :
    Calls Try.prog 18 #[.slice A n c] w fun e w' => ∃ g, w.heap.size ≤ g ∧ e = .returned (.slice (some ⟨g, 0, none⟩) n (n + 4)) ∧ TwinAt w' g zs ∧ Below w.heap.size w w' :=
  (twinBytes_any A n c zs w hl hn hr).mono fun _ _ ⟨he, hw⟩ => ⟨_, Nat.le_refl _, he, by subst hw; exact row_new rfl, by subst hw; exact below_new _ _⟩

set_option maxHeartbeats 1000000 in
theorem twinFrame_any (d s : List Int) (k : Int) (A : Option Addr) (n c : Nat) (zs : List Int) (w : World) (M : Macs d s) (hl : zs.length = n) (hn : n ≤ 16000000) (ha : Rd w A zs) :
    Calls Try.prog 9 #[fv d s k (.slice A n c)] w fun e w' => ∃ g, w.heap.size ≤ g ∧ e = .returned (fv d s k (.slice (some ⟨g, 0, none⟩) n (n + 4))) ∧ TwinAt w' g zs ∧ Below w.heap.size w w' := by
  obtain ⟨Z, hZ⟩ : ∃ Z, Z = zf := ⟨_, rfl⟩
  have hz : Hid (Z.toList.length = 14) := by rw [hZ]; exact rfl
  have Y := ((Lay.begin w).new (fc d s k (.slice A n c)) 27 rfl).newA Z 27 (g := w.heap.size + 1) (by simp)
  have b0 := (frmAt Y mem1 M).body
  have T := veil (twinB A n c zs _ hl hn (ha.keep Y.below))
  have VY := veil Y
  have VM := veil M
  have VL := veil hl
  clear Y ha hl M
  unfold zf at hZ
  go_enter Try.func9, Try.ntmps9
  obtain ⟨w1, hw1⟩ : ∃ w1, (w.alloc (.cells (fc d s k (.slice A n c)).toArray 27)).alloc (.cells Z 27) = w1 := ⟨_, rfl⟩
  rw [hw1] at b0 T VY
  generalize Z.toList = ZL at *
  subst hw1 hZ
  go_wp2_with fail
  clear b0
  refine (T.out).mono ?_
  rintro e w2 ⟨g, hg, rfl, t2, q2⟩
  have Y2 := VY.out.got q2 t2 hg
  clear T q2 t2 VY
  have f2 := Y2.free mem2 13
  have c2 := Y2.look mem2 (fc_body VM.out)
  have Y3 := veil (Y2.cell 2 rfl 13 (.slice (some ⟨g, 0, none⟩) n (n + 4)))
  simp only [List.set_cons_succ, List.set_cons_zero, fc_set VM.out] at Y3
  have L3 := veil (frmAt Y3.out mem2 VM.out).all
  have T3 := veil (frm_store (d := d) (s := s) (k := k) (v := .slice (some ⟨g, 0, none⟩) n (n + 4)) Y3.out mem1 hz.out VM.out rfl)
  have Y4 := veil (Y3.out.put 1 rfl (fc d s k (.slice (some ⟨g, 0, none⟩) n (n + 4))))
  clear Y2
  go_wp2_with (first
    | (refine wpList_load_of rfl _ rfl rfl L3.out ?_)
    | (refine wpList_store_of rfl _ _ rfl rfl rfl T3.out ?_))
  refine bodyPost_ret (ret_row rfl rfl (Y4.out.range mem1 (part_all _)) Try.underlying27 rfl (sizeFrm VM.out)) rfl ?_
  exact ⟨g, by have := hg; simp at this; omega, rfl, Y4.out.at mem0, Y4.out.below⟩

end Go.Proofs.Ytihhbniceiammaa.Et
