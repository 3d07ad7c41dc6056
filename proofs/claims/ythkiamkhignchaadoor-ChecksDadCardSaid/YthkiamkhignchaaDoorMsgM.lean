/-
  Messages in memory: by value, their parts loaded.
  Conditions: addresses of sixteen bytes.
-/
import Derived.Test.YthkiamkhignchaaDoorPktN
import Derived.Test.YthkiamkhignchaaDoorOpoM
namespace Go.Proofs.YthkiamkhignchaaDoor.Mg
set_option maxRecDepth 100000
open Go.RowKit Hd

/-- a message: its numbers, its addresses, its lists by value -/
structure Ms where
  kind : Int := 0
  code : Int := 0
  param : Int := 0
  data : Value := .slice none 0 0
  hops : Int := 0
  flags : Int := 0
  life : Int := 0
  reach : Int := 0
  retr : Int := 0
  t : List Int := z16
  d : List Int := z16
  opts : Value := .slice none 0 0
  max : Int := 0
  grp : List Int := z16
  rob : Int := 0
  intv : Int := 0
  srcs : Value := .slice none 0 0
  recs : Value := .slice none 0 0
/-- its cells -/
def mc (m : Ms) : List Value := [.int .u8 m.kind, .int .u8 m.code, .int .u32 m.param, m.data, .int .u8 m.hops, .int .u8 m.flags, .int .u16 m.life, .int .u32 m.reach, .int .u32 m.retr] ++ (bv m.t ++ (bv m.d ++ ([m.opts, .int .u16 m.max] ++ (bv m.grp ++ [.int .u8 m.rob, .int .u8 m.intv, m.srcs, m.recs]))))
/-- a message by value -/
abbrev mv (m : Ms) : Value := .agg (mc m).toArray
/-- three addresses of sixteen bytes; lists of one cell each -/
structure Fine3 (m : Ms) : Prop where
  t : m.t.length = 16
  d : m.d.length = 16
  g : m.grp.length = 16
  v1 : m.data.oneCell' = true
  v2 : m.opts.oneCell' = true
  v3 : m.srcs.oneCell' = true
  v4 : m.recs.oneCell' = true

section
variable {m : Ms}
theorem mc_len (h : Fine3 m) : (mc m).length = 63 := by simp [mc, bv_length, h.t, h.d, h.g]
theorem mc_head : Part (mc m) 0 [.int .u8 m.kind, .int .u8 m.code, .int .u32 m.param, m.data, .int .u8 m.hops, .int .u8 m.flags, .int .u16 m.life, .int .u32 m.reach, .int .u32 m.retr] := part_head _ _
theorem mc_t : Part (mc m) 9 (bv m.t) := part_mid _ _ _ rfl
theorem mc_d (h : Fine3 m) : Part (mc m) 25 (bv m.d) := by
  have := part_mid ([.int .u8 m.kind, .int .u8 m.code, .int .u32 m.param, m.data, .int .u8 m.hops, .int .u8 m.flags, .int .u16 m.life, .int .u32 m.reach, .int .u32 m.retr] ++ bv m.t) (bv m.d) ([m.opts, .int .u16 m.max] ++ (bv m.grp ++ [.int .u8 m.rob, .int .u8 m.intv, m.srcs, m.recs])) (o := 25) (by simp [bv_length, h.t])
  rwa [List.append_assoc] at this
theorem mc_mid (h : Fine3 m) : Part (mc m) 41 [m.opts, .int .u16 m.max] := by
  have := part_mid ([.int .u8 m.kind, .int .u8 m.code, .int .u32 m.param, m.data, .int .u8 m.hops, .int .u8 m.flags, .int .u16 m.life, .int .u32 m.reach, .int .u32 m.retr] ++ (bv m.t ++ bv m.d)) [m.opts, .int .u16 m.max] (bv m.grp ++ [.int .u8 m.rob, .int .u8 m.intv, m.srcs, m.recs]) (o := 41) (by simp [bv_length, h.t, h.d])
  rwa [List.append_assoc, List.append_assoc] at this
theorem mc_g (h : Fine3 m) : Part (mc m) 43 (bv m.grp) := by
  have := part_mid ([.int .u8 m.kind, .int .u8 m.code, .int .u32 m.param, m.data, .int .u8 m.hops, .int .u8 m.flags, .int .u16 m.life, .int .u32 m.reach, .int .u32 m.retr] ++ (bv m.t ++ (bv m.d ++ [m.opts, .int .u16 m.max]))) (bv m.grp) [.int .u8 m.rob, .int .u8 m.intv, m.srcs, m.recs] (o := 43) (by simp [bv_length, h.t, h.d])
  rwa [List.append_assoc, List.append_assoc, List.append_assoc] at this
theorem mc_tail (h : Fine3 m) : Part (mc m) 59 [.int .u8 m.rob, .int .u8 m.intv, m.srcs, m.recs] := by
  have := part_tail ([.int .u8 m.kind, .int .u8 m.code, .int .u32 m.param, m.data, .int .u8 m.hops, .int .u8 m.flags, .int .u16 m.life, .int .u32 m.reach, .int .u32 m.retr] ++ (bv m.t ++ (bv m.d ++ ([m.opts, .int .u16 m.max] ++ bv m.grp)))) [.int .u8 m.rob, .int .u8 m.intv, m.srcs, m.recs] (o := 59) (by simp [bv_length, h.t, h.d, h.g])
  rwa [List.append_assoc, List.append_assoc, List.append_assoc, List.append_assoc] at this
theorem mc_one (h : Fine3 m) : ∀ x ∈ mc m, x.oneCell' = true := fun x hx => by
  simp only [mc, List.mem_append, List.mem_cons, List.not_mem_nil, or_false] at hx
  rcases hx with (rfl | rfl | rfl | rfl | rfl | rfl | rfl | rfl | rfl) | hx | hx | (rfl | rfl) | hx | rfl | rfl | rfl | rfl <;> first | rfl | exact bv_byte hx | exact h.v1 | exact h.v2 | exact h.v3 | exact h.v4
theorem sizeMsg (h : Fine3 m) : (Tryd.prog.info? 35).map (·.size) = some (mc m).length := by rw [mc_len h]; kernel_rfl
end

/-- what a message that lies whole in a block gives the walk -/
structure MsgAt (w : World) (g : Nat) (m : Ms) : Prop where
  kind : w.cell? ⟨g, 0, none⟩ = some (.int .u8 m.kind)
  code : w.cell? ⟨g, 1, none⟩ = some (.int .u8 m.code)
  param : w.cell? ⟨g, 2, none⟩ = some (.int .u32 m.param)
  data : w.cell? ⟨g, 3, none⟩ = some m.data
  hops : w.cell? ⟨g, 4, none⟩ = some (.int .u8 m.hops)
  flags : w.cell? ⟨g, 5, none⟩ = some (.int .u8 m.flags)
  life : w.cell? ⟨g, 6, none⟩ = some (.int .u16 m.life)
  reach : w.cell? ⟨g, 7, none⟩ = some (.int .u32 m.reach)
  retr : w.cell? ⟨g, 8, none⟩ = some (.int .u32 m.retr)
  t : (Instr.loadAt 23 (.pointer (some ⟨g, 9, none⟩))).run Tryd.prog w = .ok (av m.t) w
  d : (Instr.loadAt 23 (.pointer (some ⟨g, 25, none⟩))).run Tryd.prog w = .ok (av m.d) w
  opts : w.cell? ⟨g, 41, none⟩ = some m.opts
  max : w.cell? ⟨g, 42, none⟩ = some (.int .u16 m.max)
  grp : (Instr.loadAt 23 (.pointer (some ⟨g, 43, none⟩))).run Tryd.prog w = .ok (av m.grp) w
  rob : w.cell? ⟨g, 59, none⟩ = some (.int .u8 m.rob)
  intv : w.cell? ⟨g, 60, none⟩ = some (.int .u8 m.intv)
  srcs : w.cell? ⟨g, 61, none⟩ = some m.srcs
  recs : w.cell? ⟨g, 62, none⟩ = some m.recs
  all : (Instr.loadAt 35 (.pointer (some ⟨g, 0, none⟩))).run Tryd.prog w = .ok (mv m) w
theorem msgAt {w0 w : World} {L : List Blk} {g : Nat} {t : TypeId} {m : Ms} (h : Lay w0 w L) (hm : (g, t, mc m) ∈ L) (F : Fine3 m) : MsgAt w g m :=
  ⟨h.look hm (mc_head 0 _ rfl), h.look hm (mc_head 1 _ rfl), h.look hm (mc_head 2 _ rfl), h.look hm (mc_head 3 _ rfl), h.look hm (mc_head 4 _ rfl), h.look hm (mc_head 5 _ rfl), h.look hm (mc_head 6 _ rfl), h.look hm (mc_head 7 _ rfl), h.look hm (mc_head 8 _ rfl),
   h.load hm mc_t Tryd.underlying23 rfl (sizeAddr F.t), h.load hm (mc_d F) Tryd.underlying23 rfl (sizeAddr F.d), h.look hm (mc_mid F 0 _ rfl), h.look hm (mc_mid F 1 _ rfl),
   h.load hm (mc_g F) Tryd.underlying23 rfl (sizeAddr F.g), h.look hm (mc_tail F 0 _ rfl), h.look hm (mc_tail F 1 _ rfl), h.look hm (mc_tail F 2 _ rfl), h.look hm (mc_tail F 3 _ rfl),
   h.load hm (part_all _) Tryd.underlying35 rfl (sizeMsg F)⟩
/-- a whole message goes into a variable -/
theorem msg_store {w0 w : World} {L : List Blk} {g : Nat} {t : TypeId} {cs : List Value} {m : Ms} (h : Lay w0 w L) (hm : (g, t, cs) ∈ L) (hc : cs.length = 63) (F : Fine3 m) :
    (Instr.storeAt 35 (.pointer (some ⟨g, 0, none⟩)) (mv m)).run Tryd.prog w = .ok () (w.setRow g (mc m).toArray) :=
  store_all (h.at hm) (by rw [mc_len F, hc]) (sizeMsg F) (mc_one F)

end Go.Proofs.YthkiamkhignchaaDoor.Mg
