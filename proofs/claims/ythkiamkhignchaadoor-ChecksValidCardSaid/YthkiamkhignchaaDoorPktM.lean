/-
  Packets in memory: by value, their parts loaded; two packets with the same parts are told the same.
  Conditions: addresses of sixteen bytes; bodies that read as the same bytes.
-/
import Derived.Test.YthkiamkhignchaaDoorHdrM
import Derived.Test.YthkiamkhignchaaDoorTwin
namespace Go.Proofs.YthkiamkhignchaaDoor.Hd
set_option maxRecDepth 100000
open Go.RowKit

/-- a packet, but for its body -/
structure Pk where
  s : List Int
  d : List Int
  hops : Int := 0
  alert : Bool := false
  frag : Fg := {}
  next : Int := 0
/-- a packet's cells -/
def pc (k : Pk) (v : Value) : List Value := bv k.s ++ (bv k.d ++ ([.int .u8 k.hops, .bool k.alert] ++ (fgc k.frag ++ [.int .u8 k.next, v])))
/-- a packet by value -/
abbrev pv (k : Pk) (v : Value) : Value := .agg (pc k v).toArray
/-- two addresses of sixteen bytes -/
structure Ends (k : Pk) : Prop where
  s : k.s.length = 16
  d : k.d.length = 16

section
variable {k : Pk} {v : Value}
theorem pc_len (h : Ends k) : (pc k v).length = 40 := by simp [pc, fgc, bv_length, h.s, h.d]
theorem pc_src : Part (pc k v) 0 (bv k.s) := part_head _ _
theorem pc_dst (h : Ends k) : Part (pc k v) 16 (bv k.d) := part_mid _ _ _ (bv_len h.s)
theorem pc_tail (h : Ends k) : Part (pc k v) 32 ([.int .u8 k.hops, .bool k.alert] ++ (fgc k.frag ++ [.int .u8 k.next, v])) := by
  have := part_tail (bv k.s ++ bv k.d) ([.int .u8 k.hops, .bool k.alert] ++ (fgc k.frag ++ [.int .u8 k.next, v])) (o := 32) (by simp [bv_length, h.s, h.d])
  rwa [List.append_assoc] at this
theorem pc_hops (h : Ends k) : (pc k v)[32]? = some (.int .u8 k.hops) := pc_tail h 0 _ rfl
theorem pc_alert (h : Ends k) : (pc k v)[33]? = some (.bool k.alert) := pc_tail h 1 _ rfl
theorem pc_frag (h : Ends k) : Part (pc k v) 34 (fgc k.frag) := fun j u hj => by
  have h4 : j < 4 := (List.getElem?_eq_some_iff.1 hj).1
  have := pc_tail (v := v) h (2 + j) u (by
    rw [List.getElem?_append_right (by simp), List.getElem?_append_left (by simp [fgc]; omega)]
    simpa using hj)
  rwa [show 32 + (2 + j) = 34 + j by omega] at this
theorem pc_next (h : Ends k) : (pc k v)[38]? = some (.int .u8 k.next) := pc_tail h 6 _ rfl
theorem pc_body (h : Ends k) : (pc k v)[39]? = some v := pc_tail h 7 _ rfl
theorem fgc_one' {f : Fg} : ∀ x ∈ fgc f, x.oneCell' = true := fun x hx => by
  simp only [fgc, List.mem_cons, List.not_mem_nil, or_false] at hx
  rcases hx with rfl | rfl | rfl | rfl <;> rfl
theorem pc_one (hv : v.oneCell' = true) : ∀ x ∈ pc k v, x.oneCell' = true := fun x hx => by
  simp only [pc, List.mem_append, List.mem_cons, List.not_mem_nil, or_false] at hx
  rcases hx with hx | hx | (rfl | rfl) | hx | rfl | rfl
  · exact bv_byte hx
  · exact bv_byte hx
  · rfl
  · rfl
  · exact fgc_one' _ hx
  · rfl
  · exact hv
theorem sizeAddr {xs : List Int} (h : xs.length = 16) : (Tryd.prog.info? 23).map (·.size) = some (bv xs).length := by rw [bv_length, h]; kernel_rfl
theorem sizeFg {f : Fg} : (Tryd.prog.info? 27).map (·.size) = some (fgc f).length := by rw [show (fgc f).length = 4 from rfl]; kernel_rfl
theorem sizePkt (h : Ends k) : (Tryd.prog.info? 30).map (·.size) = some (pc k v).length := by rw [pc_len h]; kernel_rfl
theorem addr_eql (w : World) {xs ys : List Int} (hx : xs.length = 16) (hy : ys.length = 16) {z : Bool} (hz : decide (xs = ys) = z) : (binOp .eql 23 (av xs) (av ys)).run Tryd.prog w = .ok (.bool z) w := arr_eql Tryd.underlying23 w hx hy hz
theorem frag_eql (f : Fg) (w : World) : (binOp .eql 27 (.agg (fgc f).toArray) (.agg (fgc f).toArray)).run Tryd.prog w = .ok (.bool true) w := by
  unfold fgc
  go_simp
end

/-- what a packet that lies whole in a block gives the walk -/
structure PktAt (w : World) (g : Nat) (k : Pk) (v : Value) : Prop where
  src : (Instr.loadAt 23 (.pointer (some ⟨g, 0, none⟩))).run Tryd.prog w = .ok (av k.s) w
  dst : (Instr.loadAt 23 (.pointer (some ⟨g, 16, none⟩))).run Tryd.prog w = .ok (av k.d) w
  hops : w.cell? ⟨g, 32, none⟩ = some (.int .u8 k.hops)
  alert : w.cell? ⟨g, 33, none⟩ = some (.bool k.alert)
  frag : (Instr.loadAt 27 (.pointer (some ⟨g, 34, none⟩))).run Tryd.prog w = .ok (.agg (fgc k.frag).toArray) w
  next : w.cell? ⟨g, 38, none⟩ = some (.int .u8 k.next)
  body : w.cell? ⟨g, 39, none⟩ = some v
  all : (Instr.loadAt 30 (.pointer (some ⟨g, 0, none⟩))).run Tryd.prog w = .ok (pv k v) w
theorem pktAt {w0 w : World} {L : List Blk} {g : Nat} {t : TypeId} {k : Pk} {v : Value} (h : Lay w0 w L) (hm : (g, t, pc k v) ∈ L) (M : Ends k) : PktAt w g k v :=
  ⟨h.load hm pc_src Tryd.underlying23 rfl (sizeAddr M.s), h.load hm (pc_dst M) Tryd.underlying23 rfl (sizeAddr M.d), h.look hm (pc_hops M), h.look hm (pc_alert M),
   h.load hm (pc_frag M) Tryd.underlying27 rfl sizeFg, h.look hm (pc_next M), h.look hm (pc_body M), h.load hm (part_all _) Tryd.underlying30 rfl (sizePkt M)⟩

set_option maxHeartbeats 2000000 in
theorem samePacket_true (k : Pk) (A B : Option Addr) (n c c' : Nat) (zs : List Int) (w : World) (M : Ends k) (hl : zs.length = n) (hn : n ≤ maxLen) (ha : Rd w A zs) (hb : Rd w B zs) :
    Calls Tryd.prog 30 #[pv k (.slice A n c), pv k (.slice B n c')] w fun e w' => e = .returned (.bool true) ∧ Below w.heap.size w w' := by
  have Y := ((Lay.begin w).new (pc k (.slice A n c)) 30 rfl).new (pc k (.slice B n c')) 30 (g := w.heap.size + 1) (by simp)
  have F0 := veil (pktAt Y mem1 M)
  have F1 := veil (pktAt Y mem0 M)
  have h0 := F0.out.hops
  have h1 := F1.out.hops
  have a0 := F0.out.alert
  have a1 := F1.out.alert
  have n0 := F0.out.next
  have n1 := F1.out.next
  have b0 := F0.out.body
  have b1 := F1.out.body
  have E1 : ∀ u, (binOp .eql 23 (av k.s) (av k.s)).run Tryd.prog u = .ok (.bool true) u := fun u => addr_eql u M.s M.s (by simp)
  have E2 : ∀ u, (binOp .eql 23 (av k.d) (av k.d)).run Tryd.prog u = .ok (.bool true) u := fun u => addr_eql u M.d M.d (by simp)
  have E3 : ∀ u, (binOp .eql 27 (.agg (fgc k.frag).toArray) (.agg (fgc k.frag).toArray)).run Tryd.prog u = .ok (.bool true) u := fun u => frag_eql k.frag u
  have S := veil (same_eq A B n c c' zs ((w.alloc (.cells (pc k (.slice A n c)).toArray 30)).alloc (.cells (pc k (.slice B n c')).toArray 30)) hl hn (ha.keep Y.below) (hb.keep Y.below))
  have Q := veil Y.below
  clear Y ha hb M
  go_enter Tryd.func30, Tryd.ntmps30
  go_wp2_with (first
    | (refine wpList_load_of rfl _ rfl rfl F0.out.src ?_)
    | (refine wpList_load_of rfl _ rfl rfl F1.out.src ?_)
    | (refine wpList_load_of rfl _ rfl rfl F0.out.dst ?_)
    | (refine wpList_load_of rfl _ rfl rfl F1.out.dst ?_)
    | (refine wpList_load_of rfl _ rfl rfl F0.out.frag ?_)
    | (refine wpList_load_of rfl _ rfl rfl F1.out.frag ?_))
  refine (S.out).mono ?_
  rintro e w1 ⟨rfl, hs⟩
  have Q1 : Hid (Below w.heap.size w w1) := by
    obtain ⟨q, rfl⟩ := hs
    have h := Q.out
    exact ⟨h.os, h.tape, h.output, h.size, h.block⟩
  clear hs S F0 F1 h0 h1 a0 a1 n0 n1 b0 b1 Q
  go_wp2_with fail
  go_ret
  exact ⟨rfl, Q1.out⟩

end Go.Proofs.YthkiamkhignchaaDoor.Hd
