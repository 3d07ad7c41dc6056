/-
  Texts put together (MsgM, ChkA, ChkB, ChkC, ChkM, ChkO, MsgO, MsgG).
  Conditions: as each part says.
-/
import Derived.Test.YthkiamkhignchaaDoorPktN
import Derived.Test.YthkiamkhignchaaDoorOpoM
import Derived.Test.YthkiamkhignchaaDoorAdrAll
import Derived.Test.YthkiamkhignchaaDoorOpoS
import Derived.Deep.CutRange
import Derived.Maps.OwnSet
import Derived.Test.YthkiamkhignchaaDoorOpoAo
import Derived.Test.YthkiamkhignchaaDoorOpnP
/-
  Messages in memory: by value, their parts loaded.
  Conditions: addresses of sixteen bytes.
-/
namespace Go.Proofs.YthkiamkhignchaaDoor.Mg
set_option maxRecDepth 100000
open Go.RowKit Hd

/-- a message: its numbers, its addresses, its lists by value -/
structure Ms where
  kind : Int := 0
  code : Int := 0
  param : Int := 0
  data : Value := .slice none 0 0
  hops : Int := 0
  flags : Int := 0
  life : Int := 0
  reach : Int := 0
  retr : Int := 0
  t : List Int := z16
  d : List Int := z16
  opts : Value := .slice none 0 0
  max : Int := 0
  grp : List Int := z16
  rob : Int := 0
  intv : Int := 0
  srcs : Value := .slice none 0 0
  recs : Value := .slice none 0 0
/-- its cells -/
def mc (m : Ms) : List Value := [.int .u8 m.kind, .int .u8 m.code, .int .u32 m.param, m.data, .int .u8 m.hops, .int .u8 m.flags, .int .u16 m.life, .int .u32 m.reach, .int .u32 m.retr] ++ (bv m.t ++ (bv m.d ++ ([m.opts, .int .u16 m.max] ++ (bv m.grp ++ [.int .u8 m.rob, .int .u8 m.intv, m.srcs, m.recs]))))
/-- a message by value -/
abbrev mv (m : Ms) : Value := .agg (mc m).toArray
/-- three addresses of sixteen bytes; lists of one cell each -/
structure Fine3 (m : Ms) : Prop where
  t : m.t.length = 16
  d : m.d.length = 16
  g : m.grp.length = 16
  v1 : m.data.oneCell' = true
  v2 : m.opts.oneCell' = true
  v3 : m.srcs.oneCell' = true
  v4 : m.recs.oneCell' = true

section
variable {m : Ms}
theorem mc_len (h : Fine3 m) : (mc m).length = 63 := by simp [mc, bv_length, h.t, h.d, h.g]
theorem mc_head : Part (mc m) 0 [.int .u8 m.kind, .int .u8 m.code, .int .u32 m.param, m.data, .int .u8 m.hops, .int .u8 m.flags, .int .u16 m.life, .int .u32 m.reach, .int .u32 m.retr] := part_head _ _
theorem mc_t : Part (mc m) 9 (bv m.t) := part_mid _ _ _ rfl
theorem mc_d (h : Fine3 m) : Part (mc m) 25 (bv m.d) := by
  have := part_mid ([.int .u8 m.kind, .int .u8 m.code, .int .u32 m.param, m.data, .int .u8 m.hops, .int .u8 m.flags, .int .u16 m.life, .int .u32 m.reach, .int .u32 m.retr] ++ bv m.t) (bv m.d) ([m.opts, .int .u16 m.max] ++ (bv m.grp ++ [.int .u8 m.rob, .int .u8 m.intv, m.srcs, m.recs])) (o := 25) (by simp [bv_length, h.t])
  rwa [List.append_assoc] at this
theorem mc_mid (h : Fine3 m) : Part (mc m) 41 [m.opts, .int .u16 m.max] := by
  have := part_mid ([.int .u8 m.kind, .int .u8 m.code, .int .u32 m.param, m.data, .int .u8 m.hops, .int .u8 m.flags, .int .u16 m.life, .int .u32 m.reach, .int .u32 m.retr] ++ (bv m.t ++ bv m.d)) [m.opts, .int .u16 m.max] (bv m.grp ++ [.int .u8 m.rob, .int .u8 m.intv, m.srcs, m.recs]) (o := 41) (by simp [bv_length, h.t, h.d])
  rwa [List.append_assoc, List.append_assoc] at this
theorem mc_g (h : Fine3 m) : Part (mc m) 43 (bv m.grp) := by
  have := part_mid ([.int .u8 m.kind, .int .u8 m.code, .int .u32 m.param, m.data, .int .u8 m.hops, .int .u8 m.flags, .int .u16 m.life, .int .u32 m.reach, .int .u32 m.retr] ++ (bv m.t ++ (bv m.d ++ [m.opts, .int .u16 m.max]))) (bv m.grp) [.int .u8 m.rob, .int .u8 m.intv, m.srcs, m.recs] (o := 43) (by simp [bv_length, h.t, h.d])
  rwa [List.append_assoc, List.append_assoc, List.append_assoc] at this
theorem mc_tail (h : Fine3 m) : Part (mc m) 59 [.int .u8 m.rob, .int .u8 m.intv, m.srcs, m.recs] := by
  have := part_tail ([.int .u8 m.kind, .int .u8 m.code, .int .u32 m.param, m.data, .int .u8 m.hops, .int .u8 m.flags, .int .u16 m.life, .int .u32 m.reach, .int .u32 m.retr] ++ (bv m.t ++ (bv m.d ++ ([m.opts, .int .u16 m.max] ++ bv m.grp)))) [.int .u8 m.rob, .int .u8 m.intv, m.srcs, m.recs] (o := 59) (by simp [bv_length, h.t, h.d, h.g])
  rwa [List.append_assoc, List.append_assoc, List.append_assoc, List.append_assoc] at this
theorem mc_one (h : Fine3 m) : ∀ x ∈ mc m, x.oneCell' = true := fun x hx => by
  simp only [mc, List.mem_append, List.mem_cons, List.not_mem_nil, or_false] at hx
  rcases hx with (rfl | rfl | rfl | rfl | rfl | rfl | rfl | rfl | rfl) | hx | hx | (rfl | rfl) | hx | rfl | rfl | rfl | rfl <;> first | rfl | exact bv_byte hx | exact h.v1 | exact h.v2 | exact h.v3 | exact h.v4
theorem sizeMsg (h : Fine3 m) : (Tryd.prog.info? 35).map (·.size) = some (mc m).length := by rw [mc_len h]; kernel_rfl
end

/-- what a message that lies whole in a block gives the walk -/
structure MsgAt (w : World) (g : Nat) (m : Ms) : Prop where
  kind : w.cell? ⟨g, 0, none⟩ = some (.int .u8 m.kind)
  code : w.cell? ⟨g, 1, none⟩ = some (.int .u8 m.code)
  param : w.cell? ⟨g, 2, none⟩ = some (.int .u32 m.param)
  data : w.cell? ⟨g, 3, none⟩ = some m.data
  hops : w.cell? ⟨g, 4, none⟩ = some (.int .u8 m.hops)
  flags : w.cell? ⟨g, 5, none⟩ = some (.int .u8 m.flags)
  life : w.cell? ⟨g, 6, none⟩ = some (.int .u16 m.life)
  reach : w.cell? ⟨g, 7, none⟩ = some (.int .u32 m.reach)
  retr : w.cell? ⟨g, 8, none⟩ = some (.int .u32 m.retr)
  t : (Instr.loadAt 23 (.pointer (some ⟨g, 9, none⟩))).run Tryd.prog w = .ok (av m.t) w
  d : (Instr.loadAt 23 (.pointer (some ⟨g, 25, none⟩))).run Tryd.prog w = .ok (av m.d) w
  opts : w.cell? ⟨g, 41, none⟩ = some m.opts
  max : w.cell? ⟨g, 42, none⟩ = some (.int .u16 m.max)
  grp : (Instr.loadAt 23 (.pointer (some ⟨g, 43, none⟩))).run Tryd.prog w = .ok (av m.grp) w
  rob : w.cell? ⟨g, 59, none⟩ = some (.int .u8 m.rob)
  intv : w.cell? ⟨g, 60, none⟩ = some (.int .u8 m.intv)
  srcs : w.cell? ⟨g, 61, none⟩ = some m.srcs
  recs : w.cell? ⟨g, 62, none⟩ = some m.recs
  all : (Instr.loadAt 35 (.pointer (some ⟨g, 0, none⟩))).run Tryd.prog w = .ok (mv m) w
theorem msgAt {w0 w : World} {L : List Blk} {g : Nat} {t : TypeId} {m : Ms} (h : Lay w0 w L) (hm : (g, t, mc m) ∈ L) (F : Fine3 m) : MsgAt w g m :=
  ⟨h.look hm (mc_head 0 _ rfl), h.look hm (mc_head 1 _ rfl), h.look hm (mc_head 2 _ rfl), h.look hm (mc_head 3 _ rfl), h.look hm (mc_head 4 _ rfl), h.look hm (mc_head 5 _ rfl), h.look hm (mc_head 6 _ rfl), h.look hm (mc_head 7 _ rfl), h.look hm (mc_head 8 _ rfl),
   h.load hm mc_t Tryd.underlying23 rfl (sizeAddr F.t), h.load hm (mc_d F) Tryd.underlying23 rfl (sizeAddr F.d), h.look hm (mc_mid F 0 _ rfl), h.look hm (mc_mid F 1 _ rfl),
   h.load hm (mc_g F) Tryd.underlying23 rfl (sizeAddr F.g), h.look hm (mc_tail F 0 _ rfl), h.look hm (mc_tail F 1 _ rfl), h.look hm (mc_tail F 2 _ rfl), h.look hm (mc_tail F 3 _ rfl),
   h.load hm (part_all _) Tryd.underlying35 rfl (sizeMsg F)⟩
/-- a whole message goes into a variable -/
theorem msg_store {w0 w : World} {L : List Blk} {g : Nat} {t : TypeId} {cs : List Value} {m : Ms} (h : Lay w0 w L) (hm : (g, t, cs) ∈ L) (hc : cs.length = 63) (F : Fine3 m) :
    (Instr.storeAt 35 (.pointer (some ⟨g, 0, none⟩)) (mv m)).run Tryd.prog w = .ok () (w.setRow g (mc m).toArray) :=
  store_all (h.at hm) (by rw [mc_len F, hc]) (sizeMsg F) (mc_one F)

end Go.Proofs.YthkiamkhignchaaDoor.Mg

/-
  The conditions of messages, by the code: what each function answers, whatever packet and message it is handed.
  Conditions: the known addresses lie in their table; the message's options are read.
-/
namespace Go.Proofs.YthkiamkhignchaaDoor.Ck
set_option maxRecDepth 100000
open Go.RowKit Ops Hd Oz Mg
open Ad (Knw kn kn_len kn_ok Ok mult ll sol sol_ok isMulticast_any isLinkLocal_any solicited_any unspecified_any eql_any neq_any)

/-- the table, and blocks that are known whole -/
structure Kw (w0 w : World) (L : List Blk) : Prop where
  k0 : Knw w0
  lay : Lay w0 w L
section
variable {w0 w w' : World} {L : List Blk} {g o : Nat} {t : TypeId} {cs vs : List Value}
theorem Kw.knw (h : Kw w0 w L) : Knw w := h.k0.keep h.lay.below
theorem Kw.begin (h : Knw w) : Kw w w [] := ⟨h, Lay.begin w⟩
theorem Kw.keep (h : Kw w0 w L) (q : Below w.heap.size w w') : Kw w0 w' L := ⟨h.k0, h.lay.keep q⟩
theorem Kw.drew (h : Kw w0 w L) : Kw w0 w.drew L := ⟨h.k0, h.lay.drew⟩
theorem Kw.new (h : Kw w0 w L) (cs : List Value) (t : TypeId) (hg : g = w.heap.size) : Kw w0 (w.alloc (.cells cs.toArray t)) ((g, t, cs) :: L) := ⟨h.k0, h.lay.new cs t hg⟩
theorem Kw.put (h : Kw w0 w L) (i : Nat) (hi : L[i]? = some (g, t, cs)) (cs' : List Value) : Kw w0 (w.setRow g cs'.toArray) (L.set i (g, t, cs')) := ⟨h.k0, h.lay.put i hi cs'⟩
theorem Kw.cell (h : Kw w0 w L) (i : Nat) (hi : L[i]? = some (g, t, cs)) (o : Nat) (u : Value) : Kw w0 (w.setCell ⟨g, o, none⟩ u) (L.set i (g, t, cs.set o u)) := ⟨h.k0, h.lay.cell i hi o u⟩
theorem Kw.sub {L' : List Blk} (h : Kw w0 w L) (s : L'.Sublist L) : Kw w0 w L' := ⟨h.k0, h.lay.sub s⟩
theorem Kw.below (h : Kw w0 w L) : Below w0.heap.size w0 w := h.lay.below
theorem Kw.rng (h : Kw w0 w L) : ∀ x ∈ L, w.rangeAt x.1 0 x.2.2 := fun _ hx => h.lay.range hx (part_all _)
theorem part_rng (h : w.rangeAt g 0 cs) (hp : Part cs o vs) : w.rangeAt g o vs := fun j v hj => by
  have := h (o + j) v (hp j v hj)
  rwa [Nat.zero_add] at this
end

/-- the options of a message, read -/
structure Op1 (w : World) (v : Value) (os : List (Int × List Int)) : Prop where
  ex : ∃ A c, v = .slice A os.length c ∧ Reads w A os
  n : os.length ≤ 140737488355328
theorem Op1.keep {w w' : World} {v : Value} {os : List (Int × List Int)} (h : Op1 w v os) (q : Below w.heap.size w w') : Op1 w' v os := by
  obtain ⟨A, c, e, hr⟩ := h.ex
  exact ⟨⟨A, c, e, hr.keep q⟩, h.n⟩
theorem Op1.drew {w : World} {v : Value} {os : List (Int × List Int)} (h : Op1 w v os) : Op1 w.drew v os := by
  obtain ⟨A, c, e, hr⟩ := h.ex
  exact ⟨⟨A, c, e, hr.keep (still_below (Below.refl _ _))⟩, h.n⟩
theorem op1_nil (w : World) : Op1 w (.slice none 0 0) [] := ⟨⟨none, 0, rfl, reads_nil _ _⟩, by simp⟩

/-- a packet and a message that may be looked at -/
structure Gd (k : Pk) (m : Ms) : Prop where
  s : Ok k.s
  d : Ok k.d
  t : Ok m.t
  e : Ok m.d
  f : Fine3 m
  fl : 0 ≤ m.flags ∧ m.flags ≤ 255
  kd : 0 ≤ m.kind ∧ m.kind ≤ 255
theorem Gd.ends {k : Pk} {m : Ms} (h : Gd k m) : Hd.Ends k := ⟨h.s.len, h.d.len⟩

/-- nobody's address -/
def nob (xs : List Int) : Bool := decide (xs = kn 0)
/-- there is an option 1 -/
def one (os : List (Int × List Int)) : Bool := os.any (fun o => o.1 == 1)
def hides (k : Pk) (os : List (Int × List Int)) : Bool := !nob k.s || !one os
def asks (k : Pk) (m : Ms) (os : List (Int × List Int)) : Bool := (!mult m.t && (!nob k.s || decide (k.d = sol m.t))) && hides k os
def tells (k : Pk) (m : Ms) : Bool := !mult m.t && !(mult k.d && decide (m.flags / 64 % 2 = 1))
def leads (m : Ms) : Bool := !mult m.d && (ll m.t || decide (m.t = m.d))
theorem one_next {os : List (Int × List Int)} {i : Nat} {o : Int × List Int} (h : os[i]? = some o) : one (os.take (i + 1)) = (one (os.take i) || o.1 == 1) := by
  have : os.take (i + 1) = os.take i ++ [o] := by
    rw [List.take_add_one, h]
    rfl
  unfold one
  rw [this]
  simp
theorem one_hit {os : List (Int × List Int)} {i : Nat} {o : Int × List Int} (h : os[i]? = some o) (hk : o.1 = 1) : one os = true := by
  unfold one
  rw [List.any_eq_true]
  exact ⟨o, List.mem_of_getElem? h, by simp [hk]⟩

theorem isLink_any (x : El) (w : World) : Calls Tryd.prog 57 #[ov x] w fun e w' => e = .returned (.bool (x.k == 1)) ∧ Below w.heap.size w w' := by
  have Y := veil ((Lay.begin w).new (tv x) 46 rfl)
  have c0 := Y.out.look mem0 (o := 0) (v := .int .u8 x.k) rfl
  obtain ⟨k, A, n, c⟩ := x
  simp only at c0
  go_enter Tryd.func57, Tryd.ntmps57
  go_wp2_with fail
  go_ret
  exact ⟨rfl, Y.out.below⟩

abbrev fnv (f : FuncId) : Value := .func (.func f) #[] #[]

set_option maxHeartbeats 2000000 in
theorem index_any (A : Option Addr) (n c : Nat) (os : List (Int × List Int)) (w : World) (hl : os.length = n) (hn : n ≤ 140737488355328) (ha : Reads w A os) :
    Calls Tryd.prog 60 #[.slice A n c, fnv 57] w fun e w' => ∃ r : Int, e = .returned (.int .i64 r) ∧ decide (0 ≤ r) = one os ∧ Below w.heap.size w w' := by
  have HA := veil ha
  have HL := veil hl
  have in1 : (n : Int) ≤ 140737488355328 := by omega
  clear ha hl
  go_enter Tryd.func60, Tryd.ntmps60
  go_wp2_with fail
  go_loopw [8] (fun s8 wr => ∃ i : Nat, i ≤ n ∧ s8 = .int .i64 i ∧ Hid (Below w.heap.size w wr) ∧ Hid (one (os.take i) = false)) (fun s8 _ => n - (intOf s8).toNat)
  case atStart => exact ⟨0, Nat.zero_le _, rfl, veil (Below.refl _ _), veil (by simp [one])⟩
  case round =>
    rename World => wr
    obtain ⟨i, hi, rfl, VB, HN⟩ := hrel
    by_cases hlt : i < n
    · have ij : (i : Int) < (n : Int) := by omega
      obtain ⟨o, ho⟩ : ∃ o, os[i]? = some o := ⟨_, List.getElem?_eq_getElem (by rw [HL.out]; exact hlt)⟩
      obtain ⟨a, x, rfl, X, k1, s1⟩ := HA.out i o ho
      have L0 := veil ((X.keep VB.out).load)
      have K := veil (isLink_any x wr)
      have HOJ := veil ho
      have HK1 := veil k1
      clear X s1 ho k1
      go_wp2_with (refine wpList_load_of rfl (.tmp 14) rfl rfl L0.out ?_)
      refine (K.out).mono ?_
      rintro e w2 ⟨rfl, q⟩
      have VB2 := veil (VB.out.trans (q.mono VB.out.size))
      clear K q L0 VB
      by_cases hk : x.k = 1
      · have dk : (x.k == 1) = true := by simp [hk]
        have H1 := veil (one_hit HOJ.out (HK1.out.symm.trans hk))
        clear hk
        rw [dk]
        go_wp2_with fail
        go_ret
        exact ⟨i, rfl, by rw [H1.out]; simp, VB2.out⟩
      · have dk : (x.k == 1) = false := by simp [hk]
        have H1 : Hid (one (os.take (i + 1)) = false) := veil (by rw [one_next HOJ.out, HN.out, ← HK1.out, dk]; rfl)
        clear hk
        rw [dk]
        go_wp2_with fail
        go_roundw
        case rel => exact ⟨i + 1, by omega, by go_num, VB2, H1⟩
        case measure => simp [intOf]; omega
    · have ij : ¬ (i : Int) < (n : Int) := by omega
      have hfull : os.take i = os := List.take_of_length_le (by rw [HL.out]; omega)
      rw [hfull] at HN
      clear hfull
      go_wp2_with fail
      go_ret
      exact ⟨-1, rfl, by rw [HN.out]; simp, VB.out⟩

theorem contains_any (v : Value) (os : List (Int × List Int)) (w : World) (h : Op1 w v os) :
    Calls Tryd.prog 56 #[v, fnv 57] w fun e w' => e = .returned (.bool (one os)) ∧ Below w.heap.size w w' := by
  obtain ⟨A, c, rfl, hr⟩ := h.ex
  have K := veil (index_any A os.length c os w rfl h.n hr)
  clear h hr
  generalize os.length = n at *
  generalize one os = z at *
  go_enter Tryd.func56, Tryd.ntmps56
  go_wp2_with fail
  refine (K.out).mono ?_
  rintro e w2 ⟨r, rfl, hz, q⟩
  have Q := veil q
  have HZ := veil hz
  clear K q hz
  go_wp2_with fail
  go_ret
  rw [← HZ.out]
  exact ⟨rfl, Q.out⟩

theorem anybody_any (xs : List Int) (w : World) : Calls Tryd.prog 41 #[av xs] w fun e w' => e = .returned (.bool true) ∧ Below w.heap.size w w' := by
  have q := veil (below_new w (.cells (bv xs).toArray 23))
  go_enter Tryd.func41, Tryd.ntmps41
  go_wp2_with fail
  go_ret
  exact ⟨rfl, q.out⟩

set_option linter.unusedSimpArgs false in
theorem isNobody_any (xs : List Int) (w : World) (hk : Knw w) (h : Ok xs) : Calls Tryd.prog 55 #[av xs] w fun e w' => e = .returned (.bool (nob xs)) ∧ Below w.heap.size w w' := by
  have M := veil ((Kw.begin hk).new (bv xs) 23 rfl)
  have hi := sizeAddr h.len
  have E0 : ∀ u, (binOp .eql 23 (av xs) (av (kn 0))).run Tryd.prog u = .ok (.bool (nob xs)) u := fun u => eql_any u h.len (kn_len (by omega)) rfl
  clear hk h
  generalize nob xs = z at *
  generalize hk0 : kn 0 = k0 at *
  have HK0 := veil hk0
  clear hk0
  go_enter Tryd.func55, Tryd.ntmps55
  go_wp2_with fail
  generalize w.alloc (.cells (bv xs).toArray 23) = w1 at *
  have M := veil M.out.drew
  refine wp_region_noPanic ?_
  refine wp_region_held_drew (S := (fun w' => ∀ x ∈ [(w.heap.size, (23, bv xs))], w'.rangeAt x.1 0 x.2.2)) (by kernel_rfl) M.out.rng (fun hHeld => ?_)
  refine wpAnyH_take (i := 0) (v := _) (by rfl) (by kernel_rfl) (by kernel_rfl) (by kernel_rfl) (fun _ _ _ h => h) (yieldsIf_load_mid (by rfl) _ _ (by rfl) _ _ rfl (bv xs) _ (fun _ h => h _ mem0) Tryd.underlying23 rfl hi) hHeld ?_
  try simp only [Act.put, List.setIfInBounds_toArray, List.set_cons_zero, List.set_cons_succ, List.getElem_toArray, List.getElem_cons_zero, List.getElem_cons_succ]
  refine wpAnyH_ready (rs := [1]) (by kernel_rfl) (by simp) ?_
  refine AllReadyH.cons (by rfl) (fun K hK => ?_) AllReadyH.nil
  simp only [List.getElem_toArray, List.getElem_cons_zero, List.getElem_cons_succ]
  go_simp
  refine (unspecified_any _ M.out.knw).mono ?_
  rintro e w2 ⟨rfl, q⟩
  have M := veil (M.out.keep q)
  clear q
  rw [HK0.out]
  (try dsimp only)
  refine hK.out _ _ M.out.rng (fun hHeld => ?_)
  clear hK K
  try simp only [Act.put, List.setIfInBounds_toArray, List.set_cons_zero, List.set_cons_succ, List.getElem_toArray, List.getElem_cons_zero, List.getElem_cons_succ]
  refine wpAnyH_take (i := 2) (v := ?_) (by rfl) (by kernel_rfl) (by kernel_rfl) (by kernel_rfl) (fun _ _ _ h => h) (Or.inl ⟨by rfl, ?_⟩) hHeld ?_
  rotate_left
  · intro w' hSw
    (try dsimp only at hSw)
    simp only [List.getElem_toArray, List.getElem_cons_zero, List.getElem_cons_succ]
    go_simp
    all_goals (try with_reducible rfl)
  try simp only [Act.put, List.setIfInBounds_toArray, List.set_cons_zero, List.set_cons_succ, List.getElem_toArray, List.getElem_cons_zero, List.getElem_cons_succ]
  refine wpAnyH_take (i := 3) (v := ?_) (by rfl) (by kernel_rfl) (by kernel_rfl) (by kernel_rfl) (fun _ _ _ h => h) (Or.inl ⟨by rfl, ?_⟩) hHeld ?_
  rotate_left
  · intro w' hSw
    (try dsimp only at hSw)
    simp only [List.getElem_toArray, List.getElem_cons_zero, List.getElem_cons_succ]
    go_simp
    all_goals (try with_reducible rfl)
  try simp only [Act.put, List.setIfInBounds_toArray, List.set_cons_zero, List.set_cons_succ, List.getElem_toArray, List.getElem_cons_zero, List.getElem_cons_succ]
  refine wpAnyH_done (by kernel_rfl) ?_ _
  refine NoPanic.normal ?_
  clear hHeld
  go_wp2_with fail
  go_ret
  exact ⟨rfl, M.out.below⟩

theorem localOrNobody_any (xs : List Int) (w : World) (hk : Knw w) (h : Ok xs) : Calls Tryd.prog 47 #[av xs] w fun e w' => e = .returned (.bool (ll xs || nob xs)) ∧ Below w.heap.size w w' := by
  have M := veil ((Kw.begin hk).new (bv xs) 23 rfl)
  have HH := veil h
  clear hk h
  go_enter Tryd.func47, Tryd.ntmps47
  go_wp2_with (refine wpList_load_of rfl _ rfl rfl (M.out.lay.load mem0 (part_all _) Tryd.underlying23 rfl (sizeAddr HH.out.len)) ?_)
  generalize w.alloc (.cells (bv xs).toArray 23) = w1 at *
  refine (isLinkLocal_any xs _ HH.out).mono ?_
  rintro e w2 ⟨rfl, q⟩
  have M := veil (M.out.keep q)
  clear q
  cases hl : ll xs with
  | true =>
    have HL := veil hl
    clear hl
    go_wp2_with fail
    go_ret
    exact ⟨by simp [HL.out], M.out.below⟩
  | false =>
    have HL := veil hl
    clear hl
    go_wp2_with (refine wpList_load_of rfl _ rfl rfl (M.out.lay.load mem0 (part_all _) Tryd.underlying23 rfl (sizeAddr HH.out.len)) ?_)
    refine (isNobody_any xs _ M.out.knw HH.out).mono ?_
    rintro e w3 ⟨rfl, q⟩
    have M := veil (M.out.keep q)
    clear q
    go_wp2_with fail
    go_ret
    exact ⟨by simp [HL.out], M.out.below⟩

/-- a packet and a message handed in: their blocks -/
theorem two_new {w : World} (hk : Knw w) (k : Pk) (v : Value) (m : Ms) : Kw w ((w.alloc (.cells (pc k v).toArray 30)).alloc (.cells (mc m).toArray 35)) [(w.heap.size + 1, 35, mc m), (w.heap.size, 30, pc k v)] :=
  ((Kw.begin hk).new (pc k v) 30 rfl).new (mc m) 35 (by simp)

theorem and_sixtyfour {x : Int} (hx : 0 ≤ x ∧ x ≤ 255) : bits .and .u8 x 64 = x / 64 % 2 * 64 :=
  Ad.fin256 (p := fun x => bits .and .u8 x 64 = x / 64 % 2 * 64) (by decide +kernel) hx

section
variable (k : Pk) (v : Value) (m : Ms) (os : List (Int × List Int)) (w : World)

set_option linter.unusedSimpArgs false in
theorem onAlert_any (hk : Knw w) (G : Gd k m) : Calls Tryd.prog 40 #[pv k v, mv m] w fun e w' => e = .returned (.bool (k.alert)) ∧ Below w.heap.size w w' := by
  have M := veil (two_new hk k v m)
  have VG := veil G
  have a1 := (pktAt M.out.lay mem1 VG.out.ends).alert
  clear hk G
  go_enter Tryd.func40, Tryd.ntmps40
  go_wp2_with fail
  go_ret
  exact ⟨rfl, M.out.below⟩

set_option linter.unusedSimpArgs false in
theorem noMore_any (hk : Knw w) (G : Gd k m) : Calls Tryd.prog 43 #[pv k v, mv m] w fun e w' => e = .returned (.bool (true)) ∧ Below w.heap.size w w' := by
  have M := veil (two_new hk k v m)
  have VG := veil G
  clear hk G
  go_enter Tryd.func43, Tryd.ntmps43
  go_wp2_with fail
  go_ret
  exact ⟨rfl, M.out.below⟩

set_option linter.unusedSimpArgs false in
theorem hidesNothing_any (hk : Knw w) (G : Gd k m) (hO : Op1 w m.opts os) : Calls Tryd.prog 42 #[pv k v, mv m] w fun e w' => e = .returned (.bool (hides k os)) ∧ Below w.heap.size w w' := by
  have M := veil (two_new hk k v m)
  have VG := veil G
  have HO := veil (hO.keep M.out.below)
  clear hO
  clear hk G
  go_enter Tryd.func42, Tryd.ntmps42
  go_wp2_with (refine wpList_load_of rfl _ rfl rfl (pktAt M.out.lay mem1 VG.out.ends).src ?_)
  generalize (w.alloc (.cells (pc k v).toArray 30)).alloc (.cells (mc m).toArray 35) = w1 at *
  refine (isNobody_any k.s _ M.out.knw VG.out.s).mono ?_
  rintro e w2 ⟨rfl, q⟩
  have M := veil (M.out.keep q)
  have HO := veil (HO.out.keep q)
  clear q
  cases hb : nob k.s with
  | false =>
    have HB := veil hb
    clear hb
    go_wp2_with fail
    go_ret
    exact ⟨by unfold hides; rw [HB.out]; rfl, M.out.below⟩
  | true =>
    have HB := veil hb
    clear hb
    have c1 := (msgAt M.out.lay mem0 VG.out.f).opts
    go_wp2_with fail
    clear c1
    refine (contains_any m.opts os _ HO.out).mono ?_
    rintro e w3 ⟨rfl, q⟩
    have M := veil (M.out.keep q)
    clear q
    go_wp2_with fail
    go_ret
    exact ⟨by unfold hides; rw [HB.out]; rfl, M.out.below⟩

set_option linter.unusedSimpArgs false in
theorem asksOne_any (hk : Knw w) (G : Gd k m) (hO : Op1 w m.opts os) : Calls Tryd.prog 44 #[pv k v, mv m] w fun e w' => e = .returned (.bool (asks k m os)) ∧ Below w.heap.size w w' := by
  have M := veil (two_new hk k v m)
  have VG := veil G
  have HO := veil (hO.keep M.out.below)
  have hs16 := sizeAddr G.s.len
  have hd16 := sizeAddr G.d.len
  have ht16 := sizeAddr G.t.len
  clear hO
  clear hk G
  go_enter Tryd.func44, Tryd.ntmps44
  go_wp2_with fail
  generalize (w.alloc (.cells (pc k v).toArray 30)).alloc (.cells (mc m).toArray 35) = w1 at *
  have M := veil M.out.drew
  have HO := veil HO.out.drew
  cases hb : nob k.s with
  | false =>
    refine wp_region_noPanic ?_
    refine wp_region_held_drew (S := (fun w' => ∀ x ∈ [(w.heap.size + 1, (35, mc m)), (w.heap.size, (30, pc k v))], w'.rangeAt x.1 0 x.2.2)) (by kernel_rfl) M.out.rng (fun hHeld => ?_)
    refine wpAnyH_take (i := 0) (v := ?_) (by rfl) (by kernel_rfl) (by kernel_rfl) (by kernel_rfl) (fun _ _ _ h => h) (Or.inl ⟨by rfl, ?_⟩) hHeld ?_
    rotate_left
    · intro w' hSw
      (try dsimp only at hSw)
      simp only [List.getElem_toArray, List.getElem_cons_zero, List.getElem_cons_succ]
      go_simp
      all_goals (try with_reducible rfl)
    try simp only [Act.put, List.setIfInBounds_toArray, List.set_cons_zero, List.set_cons_succ, List.getElem_toArray, List.getElem_cons_zero, List.getElem_cons_succ]
    refine wpAnyH_take (i := 1) (v := _) (by rfl) (by kernel_rfl) (by kernel_rfl) (by kernel_rfl) (fun _ _ _ h => h) (yieldsIf_load_mid (by rfl) _ _ (by rfl) _ _ rfl (bv k.s) _ (fun _ h => part_rng (h _ mem1) pc_src) Tryd.underlying23 rfl hs16) hHeld ?_
    try simp only [Act.put, List.setIfInBounds_toArray, List.set_cons_zero, List.set_cons_succ, List.getElem_toArray, List.getElem_cons_zero, List.getElem_cons_succ]
    refine wpAnyH_ready (rs := [2]) (by kernel_rfl) (by simp) ?_
    refine AllReadyH.cons (by rfl) (fun K hK => ?_) AllReadyH.nil
    simp only [List.getElem_toArray, List.getElem_cons_zero, List.getElem_cons_succ]
    go_simp
    refine (isNobody_any k.s _ M.out.knw VG.out.s).mono ?_
    rintro e w2 ⟨rfl, q⟩
    have M := veil (M.out.keep q)
    have HO := veil (HO.out.keep q)
    clear q
    rw [hb]
    (try dsimp only)
    refine hK.out _ _ M.out.rng (fun hHeld => ?_)
    clear hK K
    try simp only [Act.put, List.setIfInBounds_toArray, List.set_cons_zero, List.set_cons_succ, List.getElem_toArray, List.getElem_cons_zero, List.getElem_cons_succ]
    refine wpAnyH_take (i := 3) (v := ?_) (by rfl) (by kernel_rfl) (by kernel_rfl) (by kernel_rfl) (fun _ _ _ h => h) (Or.inl ⟨by rfl, ?_⟩) hHeld ?_
    rotate_left
    · intro w' hSw
      (try dsimp only at hSw)
      simp only [List.getElem_toArray, List.getElem_cons_zero, List.getElem_cons_succ]
      go_simp
      all_goals (try with_reducible rfl)
    try simp only [Act.put, List.setIfInBounds_toArray, List.set_cons_zero, List.set_cons_succ, List.getElem_toArray, List.getElem_cons_zero, List.getElem_cons_succ]
    refine wpAnyH_take (i := 4) (v := ?_) (by rfl) (by kernel_rfl) (by kernel_rfl) (by kernel_rfl) (fun _ _ _ h => h) (Or.inl ⟨by rfl, ?_⟩) hHeld ?_
    rotate_left
    · intro w' hSw
      (try dsimp only at hSw)
      simp only [List.getElem_toArray, List.getElem_cons_zero, List.getElem_cons_succ]
      go_simp
      all_goals (try with_reducible rfl)
    try simp only [Act.put, List.setIfInBounds_toArray, List.set_cons_zero, List.set_cons_succ, List.getElem_toArray, List.getElem_cons_zero, List.getElem_cons_succ]
    refine wpAnyH_take (i := 5) (v := undef) (by rfl) (by kernel_rfl) (by kernel_rfl) (by kernel_rfl) (fun _ _ _ h => h) (Or.inr ⟨by rfl, rfl⟩) hHeld ?_
    try simp only [Act.put, List.setIfInBounds_toArray, List.set_cons_zero, List.set_cons_succ, List.getElem_toArray, List.getElem_cons_zero, List.getElem_cons_succ]
    refine wpAnyH_take (i := 6) (v := undef) (by rfl) (by kernel_rfl) (by kernel_rfl) (by kernel_rfl) (fun _ _ _ h => h) (Or.inr ⟨by rfl, rfl⟩) hHeld ?_
    try simp only [Act.put, List.setIfInBounds_toArray, List.set_cons_zero, List.set_cons_succ, List.getElem_toArray, List.getElem_cons_zero, List.getElem_cons_succ]
    refine wpAnyH_take (i := 7) (v := undef) (by rfl) (by kernel_rfl) (by kernel_rfl) (by kernel_rfl) (fun _ _ _ h => h) (Or.inr ⟨by rfl, rfl⟩) hHeld ?_
    try simp only [Act.put, List.setIfInBounds_toArray, List.set_cons_zero, List.set_cons_succ, List.getElem_toArray, List.getElem_cons_zero, List.getElem_cons_succ]
    refine wpAnyH_take (i := 8) (v := undef) (by rfl) (by kernel_rfl) (by kernel_rfl) (by kernel_rfl) (fun _ _ _ h => h) (Or.inr ⟨by rfl, rfl⟩) hHeld ?_
    try simp only [Act.put, List.setIfInBounds_toArray, List.set_cons_zero, List.set_cons_succ, List.getElem_toArray, List.getElem_cons_zero, List.getElem_cons_succ]
    refine wpAnyH_take (i := 9) (v := undef) (by rfl) (by kernel_rfl) (by kernel_rfl) (by kernel_rfl) (fun _ _ _ h => h) (Or.inr ⟨by rfl, rfl⟩) hHeld ?_
    try simp only [Act.put, List.setIfInBounds_toArray, List.set_cons_zero, List.set_cons_succ, List.getElem_toArray, List.getElem_cons_zero, List.getElem_cons_succ]
    refine wpAnyH_take (i := 10) (v := undef) (by rfl) (by kernel_rfl) (by kernel_rfl) (by kernel_rfl) (fun _ _ _ h => h) (Or.inr ⟨by rfl, rfl⟩) hHeld ?_
    try simp only [Act.put, List.setIfInBounds_toArray, List.set_cons_zero, List.set_cons_succ, List.getElem_toArray, List.getElem_cons_zero, List.getElem_cons_succ]
    refine wpAnyH_take (i := 11) (v := ?_) (by rfl) (by kernel_rfl) (by kernel_rfl) (by kernel_rfl) (fun _ _ _ h => h) (Or.inl ⟨by rfl, ?_⟩) hHeld ?_
    rotate_left
    · intro w' hSw
      (try dsimp only at hSw)
      simp only [List.getElem_toArray, List.getElem_cons_zero, List.getElem_cons_succ]
      go_simp
      all_goals (try with_reducible rfl)
    try simp only [Act.put, List.setIfInBounds_toArray, List.set_cons_zero, List.set_cons_succ, List.getElem_toArray, List.getElem_cons_zero, List.getElem_cons_succ]
    refine wpAnyH_take (i := 12) (v := ?_) (by rfl) (by kernel_rfl) (by kernel_rfl) (by kernel_rfl) (fun _ _ _ h => h) (Or.inl ⟨by rfl, ?_⟩) hHeld ?_
    rotate_left
    · intro w' hSw
      (try dsimp only at hSw)
      simp only [List.getElem_toArray, List.getElem_cons_zero, List.getElem_cons_succ]
      go_simp
      all_goals (try with_reducible rfl)
    try simp only [Act.put, List.setIfInBounds_toArray, List.set_cons_zero, List.set_cons_succ, List.getElem_toArray, List.getElem_cons_zero, List.getElem_cons_succ]
    refine wpAnyH_done (by kernel_rfl) ?_ _
    refine NoPanic.normal ?_
    clear hHeld
    have HB := veil hb
    clear hs16 hd16 ht16 hb
    go_wp2_with (refine wpList_load_of rfl _ rfl rfl (msgAt M.out.lay mem0 VG.out.f).t ?_)
    refine (isMulticast_any m.t _ VG.out.t).mono ?_
    rintro e w4 ⟨rfl, q⟩
    have M := veil (M.out.keep q)
    have HO := veil (HO.out.keep q)
    clear q
    cases hm : mult m.t with
    | true =>
      have HM := veil hm
      clear hm
      go_wp2_with fail
      go_ret
      exact ⟨by unfold asks; rw [HM.out]; rfl, M.out.below⟩
    | false =>
      have HM := veil hm
      clear hm
      go_wp2_with (first
        | (refine wpList_load_of rfl _ rfl rfl (pktAt M.out.lay mem1 VG.out.ends).all ?_)
        | (refine wpList_load_of rfl _ rfl rfl (msgAt M.out.lay mem0 VG.out.f).all ?_))
      refine (hidesNothing_any k v m os _ M.out.knw VG.out HO.out).mono ?_
      rintro e w5 ⟨rfl, q⟩
      have M := veil (M.out.keep q)
      clear q
      go_wp2_with fail
      go_ret
      exact ⟨by unfold asks; rw [HB.out, HM.out]; simp, M.out.below⟩
  | true =>
    have E0 : ∀ u, (binOp .eql 23 (av k.d) (av (sol m.t))).run Tryd.prog u = .ok (.bool (decide (k.d = sol m.t))) u := fun u => eql_any u VG.out.d.len (sol_ok VG.out.t).len rfl
    generalize hsol : sol m.t = st at *
    have HS := veil hsol
    clear hsol
    generalize hz : decide (k.d = st) = z at *
    have HZ := veil hz
    clear hz
    refine wp_region_noPanic ?_
    refine wp_region_held_drew (S := (fun w' => ∀ x ∈ [(w.heap.size + 1, (35, mc m)), (w.heap.size, (30, pc k v))], w'.rangeAt x.1 0 x.2.2)) (by kernel_rfl) M.out.rng (fun hHeld => ?_)
    refine wpAnyH_take (i := 0) (v := ?_) (by rfl) (by kernel_rfl) (by kernel_rfl) (by kernel_rfl) (fun _ _ _ h => h) (Or.inl ⟨by rfl, ?_⟩) hHeld ?_
    rotate_left
    · intro w' hSw
      (try dsimp only at hSw)
      simp only [List.getElem_toArray, List.getElem_cons_zero, List.getElem_cons_succ]
      go_simp
      all_goals (try with_reducible rfl)
    try simp only [Act.put, List.setIfInBounds_toArray, List.set_cons_zero, List.set_cons_succ, List.getElem_toArray, List.getElem_cons_zero, List.getElem_cons_succ]
    refine wpAnyH_take (i := 1) (v := _) (by rfl) (by kernel_rfl) (by kernel_rfl) (by kernel_rfl) (fun _ _ _ h => h) (yieldsIf_load_mid (by rfl) _ _ (by rfl) _ _ rfl (bv k.s) _ (fun _ h => part_rng (h _ mem1) pc_src) Tryd.underlying23 rfl hs16) hHeld ?_
    try simp only [Act.put, List.setIfInBounds_toArray, List.set_cons_zero, List.set_cons_succ, List.getElem_toArray, List.getElem_cons_zero, List.getElem_cons_succ]
    refine wpAnyH_ready (rs := [2]) (by kernel_rfl) (by simp) ?_
    refine AllReadyH.cons (by rfl) (fun K hK => ?_) AllReadyH.nil
    simp only [List.getElem_toArray, List.getElem_cons_zero, List.getElem_cons_succ]
    go_simp
    refine (isNobody_any k.s _ M.out.knw VG.out.s).mono ?_
    rintro e w2 ⟨rfl, q⟩
    have M := veil (M.out.keep q)
    have HO := veil (HO.out.keep q)
    clear q
    rw [hb]
    (try dsimp only)
    refine hK.out _ _ M.out.rng (fun hHeld => ?_)
    clear hK K
    try simp only [Act.put, List.setIfInBounds_toArray, List.set_cons_zero, List.set_cons_succ, List.getElem_toArray, List.getElem_cons_zero, List.getElem_cons_succ]
    refine wpAnyH_take (i := 3) (v := ?_) (by rfl) (by kernel_rfl) (by kernel_rfl) (by kernel_rfl) (fun _ _ _ h => h) (Or.inl ⟨by rfl, ?_⟩) hHeld ?_
    rotate_left
    · intro w' hSw
      (try dsimp only at hSw)
      simp only [List.getElem_toArray, List.getElem_cons_zero, List.getElem_cons_succ]
      go_simp
      all_goals (try with_reducible rfl)
    try simp only [Act.put, List.setIfInBounds_toArray, List.set_cons_zero, List.set_cons_succ, List.getElem_toArray, List.getElem_cons_zero, List.getElem_cons_succ]
    refine wpAnyH_take (i := 4) (v := ?_) (by rfl) (by kernel_rfl) (by kernel_rfl) (by kernel_rfl) (fun _ _ _ h => h) (Or.inl ⟨by rfl, ?_⟩) hHeld ?_
    rotate_left
    · intro w' hSw
      (try dsimp only at hSw)
      simp only [List.getElem_toArray, List.getElem_cons_zero, List.getElem_cons_succ]
      go_simp
      all_goals (try with_reducible rfl)
    try simp only [Act.put, List.setIfInBounds_toArray, List.set_cons_zero, List.set_cons_succ, List.getElem_toArray, List.getElem_cons_zero, List.getElem_cons_succ]
    refine wpAnyH_take (i := 5) (v := ?_) (by rfl) (by kernel_rfl) (by kernel_rfl) (by kernel_rfl) (fun _ _ _ h => h) (Or.inl ⟨by rfl, ?_⟩) hHeld ?_
    rotate_left
    · intro w' hSw
      (try dsimp only at hSw)
      simp only [List.getElem_toArray, List.getElem_cons_zero, List.getElem_cons_succ]
      go_simp
      all_goals (try with_reducible rfl)
    try simp only [Act.put, List.setIfInBounds_toArray, List.set_cons_zero, List.set_cons_succ, List.getElem_toArray, List.getElem_cons_zero, List.getElem_cons_succ]
    refine wpAnyH_take (i := 6) (v := _) (by rfl) (by kernel_rfl) (by kernel_rfl) (by kernel_rfl) (fun _ _ _ h => h) (yieldsIf_load_mid (by rfl) _ _ (by rfl) _ _ rfl (bv k.d) _ (fun _ h => part_rng (h _ mem1) (pc_dst VG.out.ends)) Tryd.underlying23 rfl hd16) hHeld ?_
    try simp only [Act.put, List.setIfInBounds_toArray, List.set_cons_zero, List.set_cons_succ, List.getElem_toArray, List.getElem_cons_zero, List.getElem_cons_succ]
    refine wpAnyH_take (i := 7) (v := ?_) (by rfl) (by kernel_rfl) (by kernel_rfl) (by kernel_rfl) (fun _ _ _ h => h) (Or.inl ⟨by rfl, ?_⟩) hHeld ?_
    rotate_left
    · intro w' hSw
      (try dsimp only at hSw)
      simp only [List.getElem_toArray, List.getElem_cons_zero, List.getElem_cons_succ]
      go_simp
      all_goals (try with_reducible rfl)
    try simp only [Act.put, List.setIfInBounds_toArray, List.set_cons_zero, List.set_cons_succ, List.getElem_toArray, List.getElem_cons_zero, List.getElem_cons_succ]
    refine wpAnyH_take (i := 8) (v := _) (by rfl) (by kernel_rfl) (by kernel_rfl) (by kernel_rfl) (fun _ _ _ h => h) (yieldsIf_load_mid (by rfl) _ _ (by rfl) _ _ rfl (bv m.t) _ (fun _ h => part_rng (h _ mem0) mc_t) Tryd.underlying23 rfl ht16) hHeld ?_
    try simp only [Act.put, List.setIfInBounds_toArray, List.set_cons_zero, List.set_cons_succ, List.getElem_toArray, List.getElem_cons_zero, List.getElem_cons_succ]
    refine wpAnyH_ready (rs := [9]) (by kernel_rfl) (by simp) ?_
    refine AllReadyH.cons (by rfl) (fun K hK => ?_) AllReadyH.nil
    simp only [List.getElem_toArray, List.getElem_cons_zero, List.getElem_cons_succ]
    go_simp
    refine (solicited_any m.t _ VG.out.t).mono ?_
    rintro e w3 ⟨rfl, q⟩
    have M := veil (M.out.keep q)
    have HO := veil (HO.out.keep q)
    clear q
    rw [HS.out]
    (try dsimp only)
    refine hK.out _ _ M.out.rng (fun hHeld => ?_)
    clear hK K
    try simp only [Act.put, List.setIfInBounds_toArray, List.set_cons_zero, List.set_cons_succ, List.getElem_toArray, List.getElem_cons_zero, List.getElem_cons_succ]
    refine wpAnyH_take (i := 10) (v := ?_) (by rfl) (by kernel_rfl) (by kernel_rfl) (by kernel_rfl) (fun _ _ _ h => h) (Or.inl ⟨by rfl, ?_⟩) hHeld ?_
    rotate_left
    · intro w' hSw
      (try dsimp only at hSw)
      simp only [List.getElem_toArray, List.getElem_cons_zero, List.getElem_cons_succ]
      go_simp
      all_goals (try with_reducible rfl)
    try simp only [Act.put, List.setIfInBounds_toArray, List.set_cons_zero, List.set_cons_succ, List.getElem_toArray, List.getElem_cons_zero, List.getElem_cons_succ]
    refine wpAnyH_take (i := 11) (v := ?_) (by rfl) (by kernel_rfl) (by kernel_rfl) (by kernel_rfl) (fun _ _ _ h => h) (Or.inl ⟨by rfl, ?_⟩) hHeld ?_
    rotate_left
    · intro w' hSw
      (try dsimp only at hSw)
      simp only [List.getElem_toArray, List.getElem_cons_zero, List.getElem_cons_succ]
      go_simp
      all_goals (try with_reducible rfl)
    try simp only [Act.put, List.setIfInBounds_toArray, List.set_cons_zero, List.set_cons_succ, List.getElem_toArray, List.getElem_cons_zero, List.getElem_cons_succ]
    refine wpAnyH_take (i := 12) (v := ?_) (by rfl) (by kernel_rfl) (by kernel_rfl) (by kernel_rfl) (fun _ _ _ h => h) (Or.inl ⟨by rfl, ?_⟩) hHeld ?_
    rotate_left
    · intro w' hSw
      (try dsimp only at hSw)
      simp only [List.getElem_toArray, List.getElem_cons_zero, List.getElem_cons_succ]
      go_simp
      all_goals (try with_reducible rfl)
    try simp only [Act.put, List.setIfInBounds_toArray, List.set_cons_zero, List.set_cons_succ, List.getElem_toArray, List.getElem_cons_zero, List.getElem_cons_succ]
    refine wpAnyH_done (by kernel_rfl) ?_ _
    refine NoPanic.normal ?_
    clear hHeld
    have HB := veil hb
    clear hs16 hd16 ht16 hb E0
    go_wp2_with (refine wpList_load_of rfl _ rfl rfl (msgAt M.out.lay mem0 VG.out.f).t ?_)
    refine (isMulticast_any m.t _ VG.out.t).mono ?_
    rintro e w4 ⟨rfl, q⟩
    have M := veil (M.out.keep q)
    have HO := veil (HO.out.keep q)
    clear q
    cases hm : mult m.t with
    | true =>
      have HM := veil hm
      clear hm
      go_wp2_with fail
      go_ret
      exact ⟨by unfold asks; rw [HM.out]; rfl, M.out.below⟩
    | false =>
      have HM := veil hm
      clear hm
      cases z with
      | false =>
        go_wp2_with fail
        go_ret
        exact ⟨by unfold asks; rw [HB.out, HM.out, HS.out, HZ.out]; rfl, M.out.below⟩
      | true =>
        go_wp2_with (first
          | (refine wpList_load_of rfl _ rfl rfl (pktAt M.out.lay mem1 VG.out.ends).all ?_)
          | (refine wpList_load_of rfl _ rfl rfl (msgAt M.out.lay mem0 VG.out.f).all ?_))
        refine (hidesNothing_any k v m os _ M.out.knw VG.out HO.out).mono ?_
        rintro e w5 ⟨rfl, q⟩
        have M := veil (M.out.keep q)
        clear q
        go_wp2_with fail
        go_ret
        exact ⟨by unfold asks; rw [HB.out, HM.out, HS.out, HZ.out]; simp, M.out.below⟩

set_option linter.unusedSimpArgs false in
theorem tellsOne_any (hk : Knw w) (G : Gd k m) : Calls Tryd.prog 45 #[pv k v, mv m] w fun e w' => e = .returned (.bool (tells k m)) ∧ Below w.heap.size w w' := by
  have M := veil (two_new hk k v m)
  have VG := veil G
  clear hk G
  go_enter Tryd.func45, Tryd.ntmps45
  go_wp2_with (refine wpList_load_of rfl _ rfl rfl (pktAt M.out.lay mem1 VG.out.ends).dst ?_)
  generalize (w.alloc (.cells (pc k v).toArray 30)).alloc (.cells (mc m).toArray 35) = w1 at *
  refine (isMulticast_any k.d _ VG.out.d).mono ?_
  rintro e w2 ⟨rfl, q⟩
  have M := veil (M.out.keep q)
  clear q
  have c5 := (msgAt M.out.lay mem0 VG.out.f).flags
  have e := and_sixtyfour VG.out.fl
  have HE : Hid (decide (m.flags / 64 % 2 = 1) = (bits .and .u8 m.flags 64 != 0)) := veil (by rw [e]; rcases (by omega : m.flags / 64 % 2 = 0 ∨ m.flags / 64 % 2 = 1) with h | h <;> simp [h])
  clear e
  cases hd : mult k.d with
  | false =>
    have HD := veil hd
    clear hd
    go_wp2_with (refine wpList_load_of rfl _ rfl rfl (msgAt M.out.lay mem0 VG.out.f).t ?_)
    refine (isMulticast_any m.t _ VG.out.t).mono ?_
    rintro e w3 ⟨rfl, q⟩
    have M := veil (M.out.keep q)
    clear q
    cases hm : mult m.t with
    | false =>
      have HM := veil hm
      clear hm
      go_wp2_with fail
      go_ret
      exact ⟨by unfold tells; rw [HM.out, HD.out, HE.out]; rfl, M.out.below⟩
    | true =>
      have HM := veil hm
      clear hm
      go_wp2_with fail
      go_ret
      exact ⟨by unfold tells; rw [HM.out, HD.out, HE.out]; rfl, M.out.below⟩
  | true =>
    have HD := veil hd
    clear hd
    go_wp2_with (refine wpList_load_of rfl _ rfl rfl (msgAt M.out.lay mem0 VG.out.f).t ?_)
    refine (isMulticast_any m.t _ VG.out.t).mono ?_
    rintro e w3 ⟨rfl, q⟩
    have M := veil (M.out.keep q)
    clear q
    cases hm : mult m.t with
    | false =>
      have HM := veil hm
      clear hm
      go_wp2_with fail
      go_ret
      exact ⟨by unfold tells; rw [HM.out, HD.out, HE.out]; rfl, M.out.below⟩
    | true =>
      have HM := veil hm
      clear hm
      go_wp2_with fail
      go_ret
      exact ⟨by unfold tells; rw [HM.out, HD.out, HE.out]; rfl, M.out.below⟩

set_option linter.unusedSimpArgs false in
theorem leadsOn_any (hk : Knw w) (G : Gd k m) : Calls Tryd.prog 46 #[pv k v, mv m] w fun e w' => e = .returned (.bool (leads m)) ∧ Below w.heap.size w w' := by
  have M := veil (two_new hk k v m)
  have VG := veil G
  clear hk G
  go_enter Tryd.func46, Tryd.ntmps46
  go_wp2_with (refine wpList_load_of rfl _ rfl rfl (msgAt M.out.lay mem0 VG.out.f).d ?_)
  generalize (w.alloc (.cells (pc k v).toArray 30)).alloc (.cells (mc m).toArray 35) = w1 at *
  refine (isMulticast_any m.d _ VG.out.e).mono ?_
  rintro e w2 ⟨rfl, q⟩
  have M := veil (M.out.keep q)
  clear q
  cases hd : mult m.d with
  | true =>
    have HD := veil hd
    clear hd
    go_wp2_with fail
    go_ret
    exact ⟨by unfold leads; rw [HD.out]; rfl, M.out.below⟩
  | false =>
    have HD := veil hd
    clear hd
    go_wp2_with (refine wpList_load_of rfl _ rfl rfl (msgAt M.out.lay mem0 VG.out.f).t ?_)
    refine (isLinkLocal_any m.t _ VG.out.t).mono ?_
    rintro e w3 ⟨rfl, q⟩
    have M := veil (M.out.keep q)
    clear q
    cases hl : ll m.t with
    | true =>
      have HL := veil hl
      clear hl
      go_wp2_with fail
      go_ret
      exact ⟨by unfold leads; rw [HD.out, HL.out]; rfl, M.out.below⟩
    | false =>
      have HL := veil hl
      clear hl
      have E0 : ∀ u, (binOp .eql 23 (av m.t) (av m.d)).run Tryd.prog u = .ok (.bool (decide (m.t = m.d))) u := fun u => eql_any u VG.out.t.len VG.out.e.len rfl
      generalize hz : decide (m.t = m.d) = z at *
      have HZ := veil hz
      clear hz
      go_wp2_with (first
        | (refine wpList_load_of rfl (.tmp 14) rfl rfl (msgAt M.out.lay mem0 VG.out.f).t ?_)
        | (refine wpList_load_of rfl (.tmp 16) rfl rfl (msgAt M.out.lay mem0 VG.out.f).d ?_))
      go_ret
      exact ⟨by unfold leads; rw [HD.out, HL.out, HZ.out]; rfl, M.out.below⟩
end

end Go.Proofs.YthkiamkhignchaaDoor.Ck

/-
  The map of conditions; which messages count, by the code: whatever packet and message it is handed.
  Conditions: the known addresses lie in their table; the message's options are read.
-/
namespace Go.Proofs.YthkiamkhignchaaDoor.Ck
set_option maxRecDepth 100000
open Go.RowKit Ops Hd Oz Mg Go.Maps Go.ChangeMaps
open Ad (Knw kn kn_len kn_ok Ok mult ll sol sol_ok isMulticast_any isLinkLocal_any solicited_any unspecified_any eql_any neq_any)

/-- conditions by value -/
def zcond : Value := .agg #[.int .u8 0, .nilFunc, .nilFunc]
def condc (h : Int) (f g : FuncId) : List Value := [.int .u8 h, fnv f, fnv g]
abbrev cond (h : Int) (f g : FuncId) : Value := .agg (condc h f g).toArray

/-- a map from bytes to values -/
def Mb (w : World) (m : Nat) (es : List (Int × Value)) : Prop := ∃ arr clock, w.heap[m]? = some (.map arr clock) ∧ arr.toList.map (fun e => (e.key, e.val)) = es.map (fun p => (Value.int .u8 p.1, p.2)) ∧ ∀ p ∈ es, 0 ≤ p.1 ∧ p.1 ≤ 255
theorem Mb.lt {w : World} {m : Nat} {es : List (Int × Value)} (h : Mb w m es) : m < w.heap.size := by
  obtain ⟨_, _, hb, _⟩ := h
  exact (Array.getElem?_eq_some_iff.1 hb).1
theorem Mb.same {w w' : World} {m : Nat} {es : List (Int × Value)} (h : Mb w m es) (e : w'.heap[m]? = w.heap[m]?) : Mb w' m es := by
  obtain ⟨arr, clock, hb, r⟩ := h
  exact ⟨arr, clock, e.trans hb, r⟩
theorem Mb.ne {w : World} {m g : Nat} {es : List (Int × Value)} {t : TypeId} {cs : Array Value} (h : Mb w m es) (hr : Row w g t cs) : g ≠ m := by
  rintro rfl
  obtain ⟨_, _, hb, _⟩ := h
  unfold Row at hr
  rw [hr] at hb
  cases hb
theorem mb_new (w : World) : Mb (w.alloc (.map #[] 0)) w.heap.size [] := ⟨#[], 0, (MapKept.heap_alloc w _).1, by simp, by simp⟩
theorem byteLaw : Keyed Tryd.prog 5 := int_keyed Tryd.underlying5
theorem keyOf_byte {k : Int} (h : 0 ≤ k ∧ k ≤ 255) : keyOf Tryd.prog 5 (.int .u8 k) = some (.int .u8 k) := by
  have hw : (Lit.int .u8 k).wf = true := by simp [Lit.wf, IntKind.min, IntKind.max, IntKind.signed, IntKind.bits]; omega
  simp [keyOf, mapKey, Tryd.underlying5, hw]
theorem mb_keys {es : List (Int × Value)} {arr : Array MapEntry} (h : arr.toList.map (fun e => (e.key, e.val)) = es.map (fun p => (Value.int .u8 p.1, p.2))) (hb : ∀ p ∈ es, 0 ≤ p.1 ∧ p.1 ≤ 255) {e : MapEntry} (he : e ∈ arr.toList) : ∃ p ∈ es, e.key = .int .u8 p.1 ∧ e.val = p.2 ∧ 0 ≤ p.1 ∧ p.1 ≤ 255 := by
  have : (e.key, e.val) ∈ arr.toList.map (fun e => (e.key, e.val)) := List.mem_map_of_mem he
  rw [h, List.mem_map] at this
  obtain ⟨p, hp, e1⟩ := this
  simp only [Prod.mk.injEq] at e1
  exact ⟨p, hp, e1.1.symm, e1.2.symm, hb p hp⟩
theorem mb_law {es : List (Int × Value)} {arr : Array MapEntry} (h : arr.toList.map (fun e => (e.key, e.val)) = es.map (fun p => (Value.int .u8 p.1, p.2))) (hb : ∀ p ∈ es, 0 ≤ p.1 ∧ p.1 ≤ 255) : ∀ e ∈ arr.toList, ∃ l, keyOf Tryd.prog 5 e.key = some l := fun e he => by
  obtain ⟨p, _, hk, _, hq⟩ := mb_keys h hb he
  rw [hk]
  exact ⟨_, keyOf_byte hq⟩
theorem Mb.hit {w : World} {m : Nat} {es : List (Int × Value)} (h : Mb w m es) {k : Int} {v : Value} (hk : 0 ≤ k ∧ k ≤ 255) (hin : ∃ p ∈ es, p.1 = k) (hv : ∀ p ∈ es, p.1 = k → p.2 = v) :
    (Instr.lookup 62 (.map (some m)) (.int .u8 k) true).run Tryd.prog w = .ok (.tuple #[v, .bool true]) w := by
  obtain ⟨arr, clock, hb, he, hq⟩ := h
  rcases byteLaw.find w (keyOf_byte hk) arr.toList (mb_law he hq) with ⟨h1, h2⟩ | ⟨j, e0, h1, h2, h3⟩
  · obtain ⟨p, hp, e1⟩ := hin
    have : (Value.int .u8 p.1, p.2) ∈ arr.toList.map (fun e => (e.key, e.val)) := by rw [he]; exact List.mem_map_of_mem (f := fun p : Int × Value => (Value.int .u8 p.1, p.2)) hp
    rw [List.mem_map] at this
    obtain ⟨e, hm, e2⟩ := this
    simp only [Prod.mk.injEq] at e2
    exact absurd (e2.1.trans (by rw [e1])) (h2 e hm)
  · obtain ⟨p, hp, hk', hv', _⟩ := mb_keys he hq (List.mem_of_getElem? h2)
    rw [h3] at hk'
    injection hk' with _ hk'
    have e1 : e0.val = v := hv'.trans (hv p hp hk'.symm)
    simp [Instr.lookup, run_underlying Tryd.underlying62, MapKept.run_getObj_map hb, byteLaw.check w _ (keyOf_byte hk), h1, Result.andThen, e1]
theorem Mb.miss {w : World} {m : Nat} {es : List (Int × Value)} (h : Mb w m es) {k : Int} (hk : 0 ≤ k ∧ k ≤ 255) (hn : ∀ p ∈ es, p.1 ≠ k) :
    (Instr.lookup 62 (.map (some m)) (.int .u8 k) true).run Tryd.prog w = .ok (.tuple #[zcond, .bool false]) w := by
  obtain ⟨arr, clock, hb, he, hq⟩ := h
  have hz : (zeroValue 60).run Tryd.prog w = .ok zcond w := by kernel_rfl
  rcases byteLaw.find w (keyOf_byte hk) arr.toList (mb_law he hq) with ⟨h1, h2⟩ | ⟨j, e0, h1, h2, h3⟩
  · simp [Instr.lookup, run_underlying Tryd.underlying62, MapKept.run_getObj_map hb, byteLaw.check w _ (keyOf_byte hk), h1, Result.andThen, hz]
  · obtain ⟨p, hp, hk', _, _⟩ := mb_keys he hq (List.mem_of_getElem? h2)
    rw [h3] at hk'
    injection hk' with _ hk'
    exact absurd hk'.symm (hn p hp)
theorem Mb.more {w : World} {m : Nat} {es : List (Int × Value)} (h : Mb w m es) {k : Int} (v : Value) (hk : 0 ≤ k ∧ k ≤ 255) (hn : ∀ p ∈ es, p.1 ≠ k) :
    ∃ w', (Instr.mapUpdate 62 (.map (some m)) (.int .u8 k) v).run Tryd.prog w = .ok () w' ∧ Mb w' m (es ++ [(k, v)]) ∧ w.grownBy w' (some m) := by
  obtain ⟨arr, clock, hb, he, hq⟩ := h
  rcases byteLaw.find w (keyOf_byte hk) arr.toList (mb_law he hq) with ⟨h1, h2⟩ | ⟨j, e0, h1, h2, h3⟩
  · refine ⟨_, by simp [Instr.mapUpdate, run_underlying Tryd.underlying62, MapKept.run_getObj_map hb, byteLaw.check w false (keyOf_byte hk), h1, MapKept.run_setObj_map _ hb, Result.andThen]; rfl, ⟨arr.push ⟨.int .u8 k, v, clock⟩, clock + 1, heap_setBlock_same hb _, ?_, ?_⟩, ⟨rfl, rfl, rfl, by simp [setBlock], fun i _ hi => heap_setBlock_other hb _ (fun e => hi (by rw [e]))⟩⟩
    · simp only [Array.toList_push, List.map_append, he, List.map_cons, List.map_nil]
    · intro p hp
      simp only [List.mem_append, List.mem_singleton] at hp
      rcases hp with hp | rfl
      · exact hq p hp
      · exact hk
  · obtain ⟨p, hp, hk', _, _⟩ := mb_keys he hq (List.mem_of_getElem? h2)
    rw [h3] at hk'
    injection hk' with _ hk'
    exact absurd hk'.symm (hn p hp)

theorem wpList_insert_of {P : Program} {w w' : World} {ops : Array Oper} {rest : List Oper} {o : Oper} {a : Act} {Q : Exit → Act → World → Prop} {t : TypeId} {m k v : Value} (hw : Region.wanted o (yielded ops a.tmps) = true) (x y z : Operand)
    (ho : o.op = .insert t x y z) (hx : a.eval x = m) (hy : a.eval y = k) (hz : a.eval z = v) (hrun : (Instr.mapUpdate t m k v).run P w = .ok () w') (h : wpList P ops Q rest (a.put o.dst undef) w') : wpList P ops Q (o :: rest) a w := by
  refine wpList_wanted hw fun K hK => ?_
  have hK' := hK _ w' h
  unfold Oper.wp execOp
  simp only [ho, hx, hy, hz, hrun, Sem.run_bind, Sem.run_pure, Result.andThen_ok]
  simpa [Oper.upon] using hK'
theorem wpList_lookup_of {P : Program} {w w' : World} {ops : Array Oper} {rest : List Oper} {o : Oper} {a : Act} {Q : Exit → Act → World → Prop} {t : TypeId} {m k v : Value} {c : Bool} (hw : Region.wanted o (yielded ops a.tmps) = true) (x y : Operand)
    (ho : o.op = .lookup t x y c) (hx : a.eval x = m) (hy : a.eval y = k) (hrun : (Instr.lookup t m k c).run P w = .ok v w') (h : wpList P ops Q rest (a.put o.dst v) w') : wpList P ops Q (o :: rest) a w := by
  refine wpList_wanted hw fun K hK => ?_
  have hK' := hK _ w' h
  unfold Oper.wp execOp
  simp only [ho, hx, hy, hrun, Sem.run_bind, Sem.run_pure, Result.andThen_ok]
  simpa [Oper.upon] using hK'

/-- what is asked of each kind -/
def seven : List (Int × Value) := [(130, cond 1 39 40), (133, cond 255 41 42), (134, cond 255 39 43), (135, cond 255 41 44), (136, cond 255 41 45), (137, cond 255 39 46), (143, cond 1 47 40)]

set_option maxHeartbeats 4000000 in
theorem kinds_any (w : World) : Calls Tryd.prog 25 #[] w fun e w' => e = .returned (.map (some w.heap.size)) ∧ Mb w' w.heap.size seven ∧ Below w.heap.size w w' := by
  have M0 := mb_new w
  have q0 := below_new w (.map #[] 0)
  obtain ⟨w1, h1, M1, g1⟩ := M0.more (cond 1 39 40) (k := 130) (by omega) (by simp)
  obtain ⟨w2, h2, M2, g2⟩ := M1.more (cond 255 41 42) (k := 133) (by omega) (by simp)
  obtain ⟨w3, h3, M3, g3⟩ := M2.more (cond 255 39 43) (k := 134) (by omega) (by simp)
  obtain ⟨w4, h4, M4, g4⟩ := M3.more (cond 255 41 44) (k := 135) (by omega) (by simp)
  obtain ⟨w5, h5, M5, g5⟩ := M4.more (cond 255 41 45) (k := 136) (by omega) (by simp)
  obtain ⟨w6, h6, M6, g6⟩ := M5.more (cond 255 39 46) (k := 137) (by omega) (by simp)
  obtain ⟨w7, h7, M7, g7⟩ := M6.more (cond 1 47 40) (k := 143) (by omega) (by simp)
  have s0 : w.heap.size ≤ (w.alloc (.map #[] 0)).heap.size := by simp
  have q1 := below_gb q0 g1 s0 (Nat.le_refl _)
  have q2 := below_gb q1 g2 q1.size (Nat.le_refl _)
  have q3 := below_gb q2 g3 q2.size (Nat.le_refl _)
  have q4 := below_gb q3 g4 q3.size (Nat.le_refl _)
  have q5 := below_gb q4 g5 q4.size (Nat.le_refl _)
  have q6 := below_gb q5 g6 q5.size (Nat.le_refl _)
  have q7 := below_gb q6 g7 q6.size (Nat.le_refl _)
  have H0 : Hid ((Instr.makeMap 62 none).run Tryd.prog w = .ok (.map (some w.heap.size)) (w.alloc (.map #[] 0))) := veil (by kernel_rfl)
  have VM := veil M7
  have VQ := veil q7
  have H1 := veil h1
  have H2 := veil h2
  have H3 := veil h3
  have H4 := veil h4
  have H5 := veil h5
  have H6 := veil h6
  have H7 := veil h7
  clear M0 M1 M2 M3 M4 M5 M6 M7 q0 q1 q2 q3 q4 q5 q6 q7 g1 g2 g3 g4 g5 g6 g7 h1 h2 h3 h4 h5 h6 h7 s0
  have B1 : ∀ u, (Instr.build 60 #[(0, .int .u8 1), (1, fnv 39), (2, fnv 40)]).run Tryd.prog u = .ok (cond 1 39 40) u := fun u => by kernel_rfl
  have B2 : ∀ u, (Instr.build 60 #[(0, .int .u8 255), (1, fnv 41), (2, fnv 42)]).run Tryd.prog u = .ok (cond 255 41 42) u := fun u => by kernel_rfl
  have B3 : ∀ u, (Instr.build 60 #[(0, .int .u8 255), (1, fnv 39), (2, fnv 43)]).run Tryd.prog u = .ok (cond 255 39 43) u := fun u => by kernel_rfl
  have B4 : ∀ u, (Instr.build 60 #[(0, .int .u8 255), (1, fnv 41), (2, fnv 44)]).run Tryd.prog u = .ok (cond 255 41 44) u := fun u => by kernel_rfl
  have B5 : ∀ u, (Instr.build 60 #[(0, .int .u8 255), (1, fnv 41), (2, fnv 45)]).run Tryd.prog u = .ok (cond 255 41 45) u := fun u => by kernel_rfl
  have B6 : ∀ u, (Instr.build 60 #[(0, .int .u8 255), (1, fnv 39), (2, fnv 46)]).run Tryd.prog u = .ok (cond 255 39 46) u := fun u => by kernel_rfl
  have B7 : ∀ u, (Instr.build 60 #[(0, .int .u8 1), (1, fnv 47), (2, fnv 40)]).run Tryd.prog u = .ok (cond 1 47 40) u := fun u => by kernel_rfl
  have VB := veil (And.intro B1 (And.intro B2 (And.intro B3 (And.intro B4 (And.intro B5 (And.intro B6 B7))))))
  clear B1 B2 B3 B4 B5 B6 B7
  go_enter Tryd.func25, Tryd.ntmps25
  go_wp2_with (first
    | (refine wpList_value_of rfl (Instr.makeMap 62 none) rfl H0.out ?_)
    | (refine wpList_build_of rfl _ _ rfl _ (by simp [Act.eval]; rfl) (VB.out.1 _) ?_)
    | (refine wpList_build_of rfl _ _ rfl _ (by simp [Act.eval]; rfl) (VB.out.2.1 _) ?_)
    | (refine wpList_build_of rfl _ _ rfl _ (by simp [Act.eval]; rfl) (VB.out.2.2.1 _) ?_)
    | (refine wpList_build_of rfl _ _ rfl _ (by simp [Act.eval]; rfl) (VB.out.2.2.2.1 _) ?_)
    | (refine wpList_build_of rfl _ _ rfl _ (by simp [Act.eval]; rfl) (VB.out.2.2.2.2.1 _) ?_)
    | (refine wpList_build_of rfl _ _ rfl _ (by simp [Act.eval]; rfl) (VB.out.2.2.2.2.2.1 _) ?_)
    | (refine wpList_build_of rfl _ _ rfl _ (by simp [Act.eval]; rfl) (VB.out.2.2.2.2.2.2 _) ?_)
    | (refine wpList_insert_of rfl _ _ _ rfl rfl rfl rfl H1.out ?_)
    | (refine wpList_insert_of rfl _ _ _ rfl rfl rfl rfl H2.out ?_)
    | (refine wpList_insert_of rfl _ _ _ rfl rfl rfl rfl H3.out ?_)
    | (refine wpList_insert_of rfl _ _ _ rfl rfl rfl rfl H4.out ?_)
    | (refine wpList_insert_of rfl _ _ _ rfl rfl rfl rfl H5.out ?_)
    | (refine wpList_insert_of rfl _ _ _ rfl rfl rfl rfl H6.out ?_)
    | (refine wpList_insert_of rfl _ _ _ rfl rfl rfl rfl H7.out ?_))
  go_ret
  exact ⟨rfl, VM.out, VQ.out⟩

/-- one lookup as one step of a region that draws -/
theorem wp_lookup_of {P : Program} {o : Oper} {a : Act} {w w' : World} {K : Act → World → Prop} {Q : Exit → Act → World → Prop} {t : TypeId} {c : Bool} {m k v : Value} (x y : Operand)
    (ho : o.op = .lookup t x y c) (hx : a.eval x = m) (hy : a.eval y = k) (hrun : (Instr.lookup t m k c).run P w = .ok v w') (h : K (a.put o.dst v) w') : Oper.wp P o a w K Q := by
  unfold Oper.wp execOp
  simp only [ho, hx, hy, hrun, Sem.run_bind, Sem.run_pure, Result.andThen_ok]
  simpa [Oper.upon] using h
theorem sizeCond : (Tryd.prog.info? 60).map (·.size) = some 3 := by kernel_rfl
theorem cond_store {w0 w : World} {L : List Blk} {g : Nat} {t : TypeId} {cs : List Value} {a b c : Value} (h : Lay w0 w L) (hm : (g, t, cs) ∈ L) (hc : cs.length = 3) (h1 : a.oneCell' = true) (h2 : b.oneCell' = true) (h3 : c.oneCell' = true) :
    (Instr.storeAt 60 (.pointer (some ⟨g, 0, none⟩)) (.agg #[a, b, c])).run Tryd.prog w = .ok () (w.setRow g #[a, b, c]) :=
  store_all (vs := [a, b, c]) (h.at hm) (by rw [hc]; rfl) (by rw [sizeCond]; rfl) (by simp [h1, h2, h3])

/-- a packet and a message, and what is asked of it -/
def Three (w wx : World) (g : Nat) (a b c : Value) (k : Pk) (v : Value) (m : Ms) : Prop := Kw w wx [(g, 60, [a, b, c]), (w.heap.size + 1, 35, mc m), (w.heap.size, 30, pc k v)]

theorem mb_keep {w w' : World} {g : Nat} {es : List (Int × Value)} (h : Mb w g es) (q : Below w.heap.size w w') : Mb w' g es := h.same (q.block g h.lt)

section
variable (k : Pk) (v : Value) (m : Ms) (os : List (Int × List Int)) (w : World)

set_option linter.unusedSimpArgs false in
set_option maxHeartbeats 4000000 in
theorem valid_none (hk : Knw w) (G : Gd k m) (hO : Op1 w m.opts os) (hn : ∀ p ∈ seven, p.1 ≠ m.kind) : Calls Tryd.prog 11 #[pv k v, mv m] w fun e w' => e = .returned (.bool true) ∧ Below w.heap.size w w' := by
  have M := veil (two_new hk k v m)
  have VG := veil G
  have HO := veil hO
  obtain ⟨ca, hca⟩ : ∃ x, Value.int .u8 0 = x := ⟨_, rfl⟩
  obtain ⟨cb, hcb⟩ : ∃ x, Value.nilFunc = x := ⟨_, rfl⟩
  obtain ⟨cc, hcc⟩ : ∃ x, Value.nilFunc = x := ⟨_, rfl⟩
  have ONE : Hid (ca.oneCell' = true ∧ cb.oneCell' = true ∧ cc.oneCell' = true) := veil (by rw [← hca, ← hcb, ← hcc]; exact ⟨rfl, rfl, rfl⟩)
  have HL : Hid (∀ (x : World) (g : Nat), Mb x g seven → (Instr.lookup 62 (.map (some g)) (.int .u8 m.kind) true).run Tryd.prog x = .ok (.tuple #[.agg #[ca, cb, cc], .bool false]) x) := veil (fun x g h => by rw [← hca, ← hcb, ← hcc]; exact h.miss G.kd hn)
  clear hca hcb hcc hn
  clear hk G hO
  go_enter Tryd.func11, Tryd.ntmps11
  go_upto_region 1 with fail
  generalize (w.alloc (.cells (pc k v).toArray 30)).alloc (.cells (mc m).toArray 35) = w1 at *
  go_cut [5, 6] from 7 to 13 (fun p s wx => ∃ gc : Nat, p = .pointer (some ⟨gc, 0, none⟩) ∧ s = .bool false ∧ Hid (Kw w wx [(gc, 60, [ca, cb, cc]), (w.heap.size + 1, 35, mc m), (w.heap.size, 30, pc k v)]))
  case first =>
    have M := veil M.out.drew
    have MK : Hid (∀ (x : World) (L : List Blk), Kw w x (L ++ [(w.heap.size + 1, 35, mc m), (w.heap.size, 30, pc k v)]) → x.cell? ⟨w.heap.size + 1, 0, none⟩ = some (.int .u8 m.kind)) := veil (fun x L h => h.lay.look (List.mem_append_right _ mem0) (mc_head 0 _ rfl))
    refine wp_region_noPanic ?_
    refine wp_region_held_drew (S := (fun w' => w'.cell? ⟨w.heap.size + 1, 0, none⟩ = some (.int .u8 m.kind))) (by kernel_rfl) (MK.out _ [] M.out) (fun hHeld => ?_)
    refine wpAnyH_take (i := 1) (v := ?_) (by rfl) (by kernel_rfl) (by kernel_rfl) (by kernel_rfl) (fun _ _ _ h => h) (Or.inl ⟨by rfl, ?_⟩) hHeld ?_
    rotate_left
    · intro w' hSw
      (try dsimp only at hSw)
      simp only [List.getElem_toArray, List.getElem_cons_zero, List.getElem_cons_succ]
      go_simp
      all_goals (try with_reducible rfl)
    try simp only [Act.put, List.setIfInBounds_toArray, List.set_cons_zero, List.set_cons_succ, List.getElem_toArray, List.getElem_cons_zero, List.getElem_cons_succ]
    refine wpAnyH_take (i := 2) (v := ?_) (by rfl) (by kernel_rfl) (by kernel_rfl) (by kernel_rfl) (fun _ _ _ h => h) (Or.inl ⟨by rfl, ?_⟩) hHeld ?_
    rotate_left
    · intro w' hSw
      (try dsimp only at hSw)
      simp only [List.getElem_toArray, List.getElem_cons_zero, List.getElem_cons_succ]
      go_simp
      all_goals (try with_reducible rfl)
    try simp only [Act.put, List.setIfInBounds_toArray, List.set_cons_zero, List.set_cons_succ, List.getElem_toArray, List.getElem_cons_zero, List.getElem_cons_succ]
    refine wpAnyH_ready (rs := [0, 7]) (by kernel_rfl) (by simp) ?_
    refine AllReadyH.cons (by rfl) (fun K hK => ?_) (AllReadyH.cons (by rfl) (fun K hK => ?_) AllReadyH.nil)
    · skip
      simp only [List.getElem_toArray, List.getElem_cons_zero, List.getElem_cons_succ]
      go_simp
      refine (kinds_any _).mono ?_
      rintro e x ⟨rfl, mb, q⟩
      have M1 := veil (M.out.keep q)
      have HB := veil mb
      clear mb q
      (try dsimp only)
      refine hK.out _ _ (MK.out _ [] M1.out) (fun hHeld => ?_)
      clear hK K
      try simp only [Act.put, List.setIfInBounds_toArray, List.set_cons_zero, List.set_cons_succ, List.getElem_toArray, List.getElem_cons_zero, List.getElem_cons_succ]
      refine wpAnyH_ready (rs := [3, 7]) (by kernel_rfl) (by simp) ?_
      refine AllReadyH.cons (by rfl) (fun K hK => ?_) (AllReadyH.cons (by rfl) (fun K hK => ?_) AllReadyH.nil)
      · skip
        simp only [List.getElem_toArray, List.getElem_cons_zero, List.getElem_cons_succ]
        refine wp_lookup_of (.tmp 8) (.tmp 10) rfl rfl rfl (HL.out _ _ HB.out) ?_
        (try dsimp only)
        refine hK.out _ _ (MK.out _ [] M1.out) (fun hHeld => ?_)
        clear hK K
        try simp only [Act.put, List.setIfInBounds_toArray, List.set_cons_zero, List.set_cons_succ, List.getElem_toArray, List.getElem_cons_zero, List.getElem_cons_succ]
        refine wpAnyH_take (i := 4) (v := ?_) (by rfl) (by kernel_rfl) (by kernel_rfl) (by kernel_rfl) (fun _ _ _ h => h) (Or.inl ⟨by rfl, ?_⟩) hHeld ?_
        rotate_left
        · intro w' hSw
          (try dsimp only at hSw)
          simp only [List.getElem_toArray, List.getElem_cons_zero, List.getElem_cons_succ]
          go_simp
          all_goals (try with_reducible rfl)
        try simp only [Act.put, List.setIfInBounds_toArray, List.set_cons_zero, List.set_cons_succ, List.getElem_toArray, List.getElem_cons_zero, List.getElem_cons_succ]
        refine wpAnyH_take (i := 5) (v := ?_) (by rfl) (by kernel_rfl) (by kernel_rfl) (by kernel_rfl) (fun _ _ _ h => h) (Or.inl ⟨by rfl, ?_⟩) hHeld ?_
        rotate_left
        · intro w' hSw
          (try dsimp only at hSw)
          simp only [List.getElem_toArray, List.getElem_cons_zero, List.getElem_cons_succ]
          go_simp
          all_goals (try with_reducible rfl)
        try simp only [Act.put, List.setIfInBounds_toArray, List.set_cons_zero, List.set_cons_succ, List.getElem_toArray, List.getElem_cons_zero, List.getElem_cons_succ]
        refine wpAnyH_take (i := 6) (v := ?_) (by rfl) (by kernel_rfl) (by kernel_rfl) (by kernel_rfl) (fun _ _ _ h => h) (Or.inl ⟨by rfl, ?_⟩) hHeld ?_
        rotate_left
        · intro w' hSw
          (try dsimp only at hSw)
          simp only [List.getElem_toArray, List.getElem_cons_zero, List.getElem_cons_succ]
          go_simp
          all_goals (try with_reducible rfl)
        try simp only [Act.put, List.setIfInBounds_toArray, List.set_cons_zero, List.set_cons_succ, List.getElem_toArray, List.getElem_cons_zero, List.getElem_cons_succ]
        refine wpAnyH_ready (rs := [7]) (by kernel_rfl) (by simp) ?_
        refine AllReadyH.cons (by rfl) (fun K hK => ?_) AllReadyH.nil
        simp only [List.getElem_toArray, List.getElem_cons_zero, List.getElem_cons_succ]
        go_simp
        have M2 := veil (M1.out.new [.int .u8 0, .nilFunc, .nilFunc] 60 rfl)
        (try dsimp only)
        refine hK.out _ _ (MK.out _ [_] M2.out) (fun hHeld => ?_)
        clear hK K
        try simp only [Act.put, List.setIfInBounds_toArray, List.set_cons_zero, List.set_cons_succ, List.getElem_toArray, List.getElem_cons_zero, List.getElem_cons_succ]
        refine wpAnyH_ready (rs := [8]) (by kernel_rfl) (by simp) ?_
        refine AllReadyH.cons (by rfl) (fun K hK => ?_) AllReadyH.nil
        simp only [List.getElem_toArray, List.getElem_cons_zero, List.getElem_cons_succ]
        have T := veil (cond_store (a := ca) (b := cb) (c := cc) M2.out.lay mem0 rfl ONE.out.1 ONE.out.2.1 ONE.out.2.2)
        refine wp_store_of (.tmp 5) (.tmp 12) rfl rfl rfl T.out ?_
        have N := M2.out.put 0 rfl [ca, cb, cc]
        simp only [List.set_cons_zero] at N
        replace N := veil N
        clear T
        (try dsimp only)
        refine hK.out _ _ (MK.out _ [_] N.out) (fun hHeld => ?_)
        clear hK K
        try simp only [Act.put, List.setIfInBounds_toArray, List.set_cons_zero, List.set_cons_succ, List.getElem_toArray, List.getElem_cons_zero, List.getElem_cons_succ]
        refine wpAnyH_take (i := 9) (v := ?_) (by rfl) (by kernel_rfl) (by kernel_rfl) (by kernel_rfl) (fun _ _ _ h => h) (Or.inl ⟨by rfl, ?_⟩) hHeld ?_
        rotate_left
        · intro w' hSw
          (try dsimp only at hSw)
          simp only [List.getElem_toArray, List.getElem_cons_zero, List.getElem_cons_succ]
          go_simp
          all_goals (try with_reducible rfl)
        try simp only [Act.put, List.setIfInBounds_toArray, List.set_cons_zero, List.set_cons_succ, List.getElem_toArray, List.getElem_cons_zero, List.getElem_cons_succ]
        refine wpAnyH_done (by kernel_rfl) ?_ _
        refine NoPanic.normal ?_
        clear hHeld
        (try go_wp2_with fail)
        go_meet
        exact ⟨_, rfl, rfl, N⟩
      · skip
        simp only [List.getElem_toArray, List.getElem_cons_zero, List.getElem_cons_succ]
        go_simp
        have M2 := veil (M1.out.new [.int .u8 0, .nilFunc, .nilFunc] 60 rfl)
        have HB := veil (mb_keep HB.out (below_new _ (.cells #[.int .u8 0, .nilFunc, .nilFunc] 60)))
        (try dsimp only)
        refine hK.out _ _ (MK.out _ [_] M2.out) (fun hHeld => ?_)
        clear hK K
        try simp only [Act.put, List.setIfInBounds_toArray, List.set_cons_zero, List.set_cons_succ, List.getElem_toArray, List.getElem_cons_zero, List.getElem_cons_succ]
        refine wpAnyH_ready (rs := [3]) (by kernel_rfl) (by simp) ?_
        refine AllReadyH.cons (by rfl) (fun K hK => ?_) AllReadyH.nil
        simp only [List.getElem_toArray, List.getElem_cons_zero, List.getElem_cons_succ]
        refine wp_lookup_of (.tmp 8) (.tmp 10) rfl rfl rfl (HL.out _ _ HB.out) ?_
        (try dsimp only)
        refine hK.out _ _ (MK.out _ [_] M2.out) (fun hHeld => ?_)
        clear hK K
        try simp only [Act.put, List.setIfInBounds_toArray, List.set_cons_zero, List.set_cons_succ, List.getElem_toArray, List.getElem_cons_zero, List.getElem_cons_succ]
        refine wpAnyH_take (i := 4) (v := ?_) (by rfl) (by kernel_rfl) (by kernel_rfl) (by kernel_rfl) (fun _ _ _ h => h) (Or.inl ⟨by rfl, ?_⟩) hHeld ?_
        rotate_left
        · intro w' hSw
          (try dsimp only at hSw)
          simp only [List.getElem_toArray, List.getElem_cons_zero, List.getElem_cons_succ]
          go_simp
          all_goals (try with_reducible rfl)
        try simp only [Act.put, List.setIfInBounds_toArray, List.set_cons_zero, List.set_cons_succ, List.getElem_toArray, List.getElem_cons_zero, List.getElem_cons_succ]
        refine wpAnyH_take (i := 5) (v := ?_) (by rfl) (by kernel_rfl) (by kernel_rfl) (by kernel_rfl) (fun _ _ _ h => h) (Or.inl ⟨by rfl, ?_⟩) hHeld ?_
        rotate_left
        · intro w' hSw
          (try dsimp only at hSw)
          simp only [List.getElem_toArray, List.getElem_cons_zero, List.getElem_cons_succ]
          go_simp
          all_goals (try with_reducible rfl)
        try simp only [Act.put, List.setIfInBounds_toArray, List.set_cons_zero, List.set_cons_succ, List.getElem_toArray, List.getElem_cons_zero, List.getElem_cons_succ]
        refine wpAnyH_take (i := 6) (v := ?_) (by rfl) (by kernel_rfl) (by kernel_rfl) (by kernel_rfl) (fun _ _ _ h => h) (Or.inl ⟨by rfl, ?_⟩) hHeld ?_
        rotate_left
        · intro w' hSw
          (try dsimp only at hSw)
          simp only [List.getElem_toArray, List.getElem_cons_zero, List.getElem_cons_succ]
          go_simp
          all_goals (try with_reducible rfl)
        try simp only [Act.put, List.setIfInBounds_toArray, List.set_cons_zero, List.set_cons_succ, List.getElem_toArray, List.getElem_cons_zero, List.getElem_cons_succ]
        refine wpAnyH_ready (rs := [8]) (by kernel_rfl) (by simp) ?_
        refine AllReadyH.cons (by rfl) (fun K hK => ?_) AllReadyH.nil
        simp only [List.getElem_toArray, List.getElem_cons_zero, List.getElem_cons_succ]
        have T := veil (cond_store (a := ca) (b := cb) (c := cc) M2.out.lay mem0 rfl ONE.out.1 ONE.out.2.1 ONE.out.2.2)
        refine wp_store_of (.tmp 5) (.tmp 12) rfl rfl rfl T.out ?_
        have N := M2.out.put 0 rfl [ca, cb, cc]
        simp only [List.set_cons_zero] at N
        replace N := veil N
        clear T
        (try dsimp only)
        refine hK.out _ _ (MK.out _ [_] N.out) (fun hHeld => ?_)
        clear hK K
        try simp only [Act.put, List.setIfInBounds_toArray, List.set_cons_zero, List.set_cons_succ, List.getElem_toArray, List.getElem_cons_zero, List.getElem_cons_succ]
        refine wpAnyH_take (i := 9) (v := ?_) (by rfl) (by kernel_rfl) (by kernel_rfl) (by kernel_rfl) (fun _ _ _ h => h) (Or.inl ⟨by rfl, ?_⟩) hHeld ?_
        rotate_left
        · intro w' hSw
          (try dsimp only at hSw)
          simp only [List.getElem_toArray, List.getElem_cons_zero, List.getElem_cons_succ]
          go_simp
          all_goals (try with_reducible rfl)
        try simp only [Act.put, List.setIfInBounds_toArray, List.set_cons_zero, List.set_cons_succ, List.getElem_toArray, List.getElem_cons_zero, List.getElem_cons_succ]
        refine wpAnyH_done (by kernel_rfl) ?_ _
        refine NoPanic.normal ?_
        clear hHeld
        (try go_wp2_with fail)
        go_meet
        exact ⟨_, rfl, rfl, N⟩
    · skip
      simp only [List.getElem_toArray, List.getElem_cons_zero, List.getElem_cons_succ]
      go_simp
      have M1 := veil (M.out.new [.int .u8 0, .nilFunc, .nilFunc] 60 rfl)
      (try dsimp only)
      refine hK.out _ _ (MK.out _ [_] M1.out) (fun hHeld => ?_)
      clear hK K
      try simp only [Act.put, List.setIfInBounds_toArray, List.set_cons_zero, List.set_cons_succ, List.getElem_toArray, List.getElem_cons_zero, List.getElem_cons_succ]
      refine wpAnyH_ready (rs := [0]) (by kernel_rfl) (by simp) ?_
      refine AllReadyH.cons (by rfl) (fun K hK => ?_) AllReadyH.nil
      simp only [List.getElem_toArray, List.getElem_cons_zero, List.getElem_cons_succ]
      go_simp
      refine (kinds_any _).mono ?_
      rintro e x ⟨rfl, mb, q⟩
      have M2 := veil (M1.out.keep q)
      have HB := veil mb
      clear mb q
      (try dsimp only)
      refine hK.out _ _ (MK.out _ [_] M2.out) (fun hHeld => ?_)
      clear hK K
      try simp only [Act.put, List.setIfInBounds_toArray, List.set_cons_zero, List.set_cons_succ, List.getElem_toArray, List.getElem_cons_zero, List.getElem_cons_succ]
      refine wpAnyH_ready (rs := [3]) (by kernel_rfl) (by simp) ?_
      refine AllReadyH.cons (by rfl) (fun K hK => ?_) AllReadyH.nil
      simp only [List.getElem_toArray, List.getElem_cons_zero, List.getElem_cons_succ]
      refine wp_lookup_of (.tmp 8) (.tmp 10) rfl rfl rfl (HL.out _ _ HB.out) ?_
      (try dsimp only)
      refine hK.out _ _ (MK.out _ [_] M2.out) (fun hHeld => ?_)
      clear hK K
      try simp only [Act.put, List.setIfInBounds_toArray, List.set_cons_zero, List.set_cons_succ, List.getElem_toArray, List.getElem_cons_zero, List.getElem_cons_succ]
      refine wpAnyH_take (i := 4) (v := ?_) (by rfl) (by kernel_rfl) (by kernel_rfl) (by kernel_rfl) (fun _ _ _ h => h) (Or.inl ⟨by rfl, ?_⟩) hHeld ?_
      rotate_left
      · intro w' hSw
        (try dsimp only at hSw)
        simp only [List.getElem_toArray, List.getElem_cons_zero, List.getElem_cons_succ]
        go_simp
        all_goals (try with_reducible rfl)
      try simp only [Act.put, List.setIfInBounds_toArray, List.set_cons_zero, List.set_cons_succ, List.getElem_toArray, List.getElem_cons_zero, List.getElem_cons_succ]
      refine wpAnyH_take (i := 5) (v := ?_) (by rfl) (by kernel_rfl) (by kernel_rfl) (by kernel_rfl) (fun _ _ _ h => h) (Or.inl ⟨by rfl, ?_⟩) hHeld ?_
      rotate_left
      · intro w' hSw
        (try dsimp only at hSw)
        simp only [List.getElem_toArray, List.getElem_cons_zero, List.getElem_cons_succ]
        go_simp
        all_goals (try with_reducible rfl)
      try simp only [Act.put, List.setIfInBounds_toArray, List.set_cons_zero, List.set_cons_succ, List.getElem_toArray, List.getElem_cons_zero, List.getElem_cons_succ]
      refine wpAnyH_take (i := 6) (v := ?_) (by rfl) (by kernel_rfl) (by kernel_rfl) (by kernel_rfl) (fun _ _ _ h => h) (Or.inl ⟨by rfl, ?_⟩) hHeld ?_
      rotate_left
      · intro w' hSw
        (try dsimp only at hSw)
        simp only [List.getElem_toArray, List.getElem_cons_zero, List.getElem_cons_succ]
        go_simp
        all_goals (try with_reducible rfl)
      try simp only [Act.put, List.setIfInBounds_toArray, List.set_cons_zero, List.set_cons_succ, List.getElem_toArray, List.getElem_cons_zero, List.getElem_cons_succ]
      refine wpAnyH_ready (rs := [8]) (by kernel_rfl) (by simp) ?_
      refine AllReadyH.cons (by rfl) (fun K hK => ?_) AllReadyH.nil
      simp only [List.getElem_toArray, List.getElem_cons_zero, List.getElem_cons_succ]
      have T := veil (cond_store (a := ca) (b := cb) (c := cc) M2.out.lay mem0 rfl ONE.out.1 ONE.out.2.1 ONE.out.2.2)
      refine wp_store_of (.tmp 5) (.tmp 12) rfl rfl rfl T.out ?_
      have N := M2.out.put 0 rfl [ca, cb, cc]
      simp only [List.set_cons_zero] at N
      replace N := veil N
      clear T
      (try dsimp only)
      refine hK.out _ _ (MK.out _ [_] N.out) (fun hHeld => ?_)
      clear hK K
      try simp only [Act.put, List.setIfInBounds_toArray, List.set_cons_zero, List.set_cons_succ, List.getElem_toArray, List.getElem_cons_zero, List.getElem_cons_succ]
      refine wpAnyH_take (i := 9) (v := ?_) (by rfl) (by kernel_rfl) (by kernel_rfl) (by kernel_rfl) (fun _ _ _ h => h) (Or.inl ⟨by rfl, ?_⟩) hHeld ?_
      rotate_left
      · intro w' hSw
        (try dsimp only at hSw)
        simp only [List.getElem_toArray, List.getElem_cons_zero, List.getElem_cons_succ]
        go_simp
        all_goals (try with_reducible rfl)
      try simp only [Act.put, List.setIfInBounds_toArray, List.set_cons_zero, List.set_cons_succ, List.getElem_toArray, List.getElem_cons_zero, List.getElem_cons_succ]
      refine wpAnyH_done (by kernel_rfl) ?_ _
      refine NoPanic.normal ?_
      clear hHeld
      (try go_wp2_with fail)
      go_meet
      exact ⟨_, rfl, rfl, N⟩
  case rest =>
    obtain ⟨gc, rfl, rfl, N⟩ := hcut
    go_wp2_with fail
    go_ret
    exact ⟨rfl, N.out.below⟩

set_option linter.unusedSimpArgs false in
set_option maxHeartbeats 4000000 in
theorem valid_some (hk : Knw w) (G : Gd k m) (hO : Op1 w m.opts os) (h : Int) (f g : FuncId) (a b : Bool) (hin : ∃ p ∈ seven, p.1 = m.kind) (hv : ∀ p ∈ seven, p.1 = m.kind → p.2 = cond h f g)
    (E1 : ∀ xs u, (callFunc f xs).run Tryd.prog u = .ok (.enter f xs) u) (E2 : ∀ xs u, (callFunc g xs).run Tryd.prog u = .ok (.enter g xs) u)
    (K1 : ∀ u, Knw u → Calls Tryd.prog f #[av k.s] u fun e w' => e = .returned (.bool a) ∧ Below u.heap.size u w')
    (K2 : ∀ u, Knw u → Op1 u m.opts os → Calls Tryd.prog g #[pv k v, mv m] u fun e w' => e = .returned (.bool b) ∧ Below u.heap.size u w') :
    Calls Tryd.prog 11 #[pv k v, mv m] w fun e w' => e = .returned (.bool (decide (k.hops = h) && (decide (m.code = 0) && (a && b)))) ∧ Below w.heap.size w w' := by
  have M := veil (two_new hk k v m)
  have VG := veil G
  have HO := veil hO
  have VK1 := veil K1
  have VK2 := veil K2
  have VE1 := veil E1
  have VE2 := veil E2
  obtain ⟨ca, hca⟩ : ∃ x, Value.int .u8 h = x := ⟨_, rfl⟩
  obtain ⟨cb, hcb⟩ : ∃ x, fnv f = x := ⟨_, rfl⟩
  obtain ⟨cc, hcc⟩ : ∃ x, fnv g = x := ⟨_, rfl⟩
  have ONE : Hid (ca.oneCell' = true ∧ cb.oneCell' = true ∧ cc.oneCell' = true) := veil (by rw [← hca, ← hcb, ← hcc]; exact ⟨rfl, rfl, rfl⟩)
  have HL : Hid (∀ (x : World) (g : Nat), Mb x g seven → (Instr.lookup 62 (.map (some g)) (.int .u8 m.kind) true).run Tryd.prog x = .ok (.tuple #[.agg #[ca, cb, cc], .bool true]) x) := veil (fun x gm hb => by rw [← hca, ← hcb, ← hcc]; exact hb.hit G.kd hin hv)
  have HC := veil (And.intro hca (And.intro hcb hcc))
  clear hca hcb hcc hin hv K1 K2 E1 E2
  clear hk G hO
  go_enter Tryd.func11, Tryd.ntmps11
  go_upto_region 1 with fail
  generalize (w.alloc (.cells (pc k v).toArray 30)).alloc (.cells (mc m).toArray 35) = w1 at *
  go_cut [5, 6] from 7 to 13 (fun p s wx => ∃ gc : Nat, p = .pointer (some ⟨gc, 0, none⟩) ∧ s = .bool true ∧ Hid (Kw w wx [(gc, 60, [ca, cb, cc]), (w.heap.size + 1, 35, mc m), (w.heap.size, 30, pc k v)]))
  case first =>
    have M := veil M.out.drew
    have MK : Hid (∀ (x : World) (L : List Blk), Kw w x (L ++ [(w.heap.size + 1, 35, mc m), (w.heap.size, 30, pc k v)]) → x.cell? ⟨w.heap.size + 1, 0, none⟩ = some (.int .u8 m.kind)) := veil (fun x L h => h.lay.look (List.mem_append_right _ mem0) (mc_head 0 _ rfl))
    refine wp_region_noPanic ?_
    refine wp_region_held_drew (S := (fun w' => w'.cell? ⟨w.heap.size + 1, 0, none⟩ = some (.int .u8 m.kind))) (by kernel_rfl) (MK.out _ [] M.out) (fun hHeld => ?_)
    refine wpAnyH_take (i := 1) (v := ?_) (by rfl) (by kernel_rfl) (by kernel_rfl) (by kernel_rfl) (fun _ _ _ h => h) (Or.inl ⟨by rfl, ?_⟩) hHeld ?_
    rotate_left
    · intro w' hSw
      (try dsimp only at hSw)
      simp only [List.getElem_toArray, List.getElem_cons_zero, List.getElem_cons_succ]
      go_simp
      all_goals (try with_reducible rfl)
    try simp only [Act.put, List.setIfInBounds_toArray, List.set_cons_zero, List.set_cons_succ, List.getElem_toArray, List.getElem_cons_zero, List.getElem_cons_succ]
    refine wpAnyH_take (i := 2) (v := ?_) (by rfl) (by kernel_rfl) (by kernel_rfl) (by kernel_rfl) (fun _ _ _ h => h) (Or.inl ⟨by rfl, ?_⟩) hHeld ?_
    rotate_left
    · intro w' hSw
      (try dsimp only at hSw)
      simp only [List.getElem_toArray, List.getElem_cons_zero, List.getElem_cons_succ]
      go_simp
      all_goals (try with_reducible rfl)
    try simp only [Act.put, List.setIfInBounds_toArray, List.set_cons_zero, List.set_cons_succ, List.getElem_toArray, List.getElem_cons_zero, List.getElem_cons_succ]
    refine wpAnyH_ready (rs := [0, 7]) (by kernel_rfl) (by simp) ?_
    refine AllReadyH.cons (by rfl) (fun K hK => ?_) (AllReadyH.cons (by rfl) (fun K hK => ?_) AllReadyH.nil)
    · skip
      simp only [List.getElem_toArray, List.getElem_cons_zero, List.getElem_cons_succ]
      go_simp
      refine (kinds_any _).mono ?_
      rintro e x ⟨rfl, mb, q⟩
      have M1 := veil (M.out.keep q)
      have HB := veil mb
      clear mb q
      (try dsimp only)
      refine hK.out _ _ (MK.out _ [] M1.out) (fun hHeld => ?_)
      clear hK K
      try simp only [Act.put, List.setIfInBounds_toArray, List.set_cons_zero, List.set_cons_succ, List.getElem_toArray, List.getElem_cons_zero, List.getElem_cons_succ]
      refine wpAnyH_ready (rs := [3, 7]) (by kernel_rfl) (by simp) ?_
      refine AllReadyH.cons (by rfl) (fun K hK => ?_) (AllReadyH.cons (by rfl) (fun K hK => ?_) AllReadyH.nil)
      · skip
        simp only [List.getElem_toArray, List.getElem_cons_zero, List.getElem_cons_succ]
        refine wp_lookup_of (.tmp 8) (.tmp 10) rfl rfl rfl (HL.out _ _ HB.out) ?_
        (try dsimp only)
        refine hK.out _ _ (MK.out _ [] M1.out) (fun hHeld => ?_)
        clear hK K
        try simp only [Act.put, List.setIfInBounds_toArray, List.set_cons_zero, List.set_cons_succ, List.getElem_toArray, List.getElem_cons_zero, List.getElem_cons_succ]
        refine wpAnyH_take (i := 4) (v := ?_) (by rfl) (by kernel_rfl) (by kernel_rfl) (by kernel_rfl) (fun _ _ _ h => h) (Or.inl ⟨by rfl, ?_⟩) hHeld ?_
        rotate_left
        · intro w' hSw
          (try dsimp only at hSw)
          simp only [List.getElem_toArray, List.getElem_cons_zero, List.getElem_cons_succ]
          go_simp
          all_goals (try with_reducible rfl)
        try simp only [Act.put, List.setIfInBounds_toArray, List.set_cons_zero, List.set_cons_succ, List.getElem_toArray, List.getElem_cons_zero, List.getElem_cons_succ]
        refine wpAnyH_take (i := 5) (v := ?_) (by rfl) (by kernel_rfl) (by kernel_rfl) (by kernel_rfl) (fun _ _ _ h => h) (Or.inl ⟨by rfl, ?_⟩) hHeld ?_
        rotate_left
        · intro w' hSw
          (try dsimp only at hSw)
          simp only [List.getElem_toArray, List.getElem_cons_zero, List.getElem_cons_succ]
          go_simp
          all_goals (try with_reducible rfl)
        try simp only [Act.put, List.setIfInBounds_toArray, List.set_cons_zero, List.set_cons_succ, List.getElem_toArray, List.getElem_cons_zero, List.getElem_cons_succ]
        refine wpAnyH_take (i := 6) (v := ?_) (by rfl) (by kernel_rfl) (by kernel_rfl) (by kernel_rfl) (fun _ _ _ h => h) (Or.inl ⟨by rfl, ?_⟩) hHeld ?_
        rotate_left
        · intro w' hSw
          (try dsimp only at hSw)
          simp only [List.getElem_toArray, List.getElem_cons_zero, List.getElem_cons_succ]
          go_simp
          all_goals (try with_reducible rfl)
        try simp only [Act.put, List.setIfInBounds_toArray, List.set_cons_zero, List.set_cons_succ, List.getElem_toArray, List.getElem_cons_zero, List.getElem_cons_succ]
        refine wpAnyH_ready (rs := [7]) (by kernel_rfl) (by simp) ?_
        refine AllReadyH.cons (by rfl) (fun K hK => ?_) AllReadyH.nil
        simp only [List.getElem_toArray, List.getElem_cons_zero, List.getElem_cons_succ]
        go_simp
        have M2 := veil (M1.out.new [.int .u8 0, .nilFunc, .nilFunc] 60 rfl)
        (try dsimp only)
        refine hK.out _ _ (MK.out _ [_] M2.out) (fun hHeld => ?_)
        clear hK K
        try simp only [Act.put, List.setIfInBounds_toArray, List.set_cons_zero, List.set_cons_succ, List.getElem_toArray, List.getElem_cons_zero, List.getElem_cons_succ]
        refine wpAnyH_ready (rs := [8]) (by kernel_rfl) (by simp) ?_
        refine AllReadyH.cons (by rfl) (fun K hK => ?_) AllReadyH.nil
        simp only [List.getElem_toArray, List.getElem_cons_zero, List.getElem_cons_succ]
        have T := veil (cond_store (a := ca) (b := cb) (c := cc) M2.out.lay mem0 rfl ONE.out.1 ONE.out.2.1 ONE.out.2.2)
        refine wp_store_of (.tmp 5) (.tmp 12) rfl rfl rfl T.out ?_
        have N := M2.out.put 0 rfl [ca, cb, cc]
        simp only [List.set_cons_zero] at N
        replace N := veil N
        clear T
        (try dsimp only)
        refine hK.out _ _ (MK.out _ [_] N.out) (fun hHeld => ?_)
        clear hK K
        try simp only [Act.put, List.setIfInBounds_toArray, List.set_cons_zero, List.set_cons_succ, List.getElem_toArray, List.getElem_cons_zero, List.getElem_cons_succ]
        refine wpAnyH_take (i := 9) (v := ?_) (by rfl) (by kernel_rfl) (by kernel_rfl) (by kernel_rfl) (fun _ _ _ h => h) (Or.inl ⟨by rfl, ?_⟩) hHeld ?_
        rotate_left
        · intro w' hSw
          (try dsimp only at hSw)
          simp only [List.getElem_toArray, List.getElem_cons_zero, List.getElem_cons_succ]
          go_simp
          all_goals (try with_reducible rfl)
        try simp only [Act.put, List.setIfInBounds_toArray, List.set_cons_zero, List.set_cons_succ, List.getElem_toArray, List.getElem_cons_zero, List.getElem_cons_succ]
        refine wpAnyH_done (by kernel_rfl) ?_ _
        refine NoPanic.normal ?_
        clear hHeld
        (try go_wp2_with fail)
        go_meet
        exact ⟨_, rfl, rfl, N⟩
      · skip
        simp only [List.getElem_toArray, List.getElem_cons_zero, List.getElem_cons_succ]
        go_simp
        have M2 := veil (M1.out.new [.int .u8 0, .nilFunc, .nilFunc] 60 rfl)
        have HB := veil (mb_keep HB.out (below_new _ (.cells #[.int .u8 0, .nilFunc, .nilFunc] 60)))
        (try dsimp only)
        refine hK.out _ _ (MK.out _ [_] M2.out) (fun hHeld => ?_)
        clear hK K
        try simp only [Act.put, List.setIfInBounds_toArray, List.set_cons_zero, List.set_cons_succ, List.getElem_toArray, List.getElem_cons_zero, List.getElem_cons_succ]
        refine wpAnyH_ready (rs := [3]) (by kernel_rfl) (by simp) ?_
        refine AllReadyH.cons (by rfl) (fun K hK => ?_) AllReadyH.nil
        simp only [List.getElem_toArray, List.getElem_cons_zero, List.getElem_cons_succ]
        refine wp_lookup_of (.tmp 8) (.tmp 10) rfl rfl rfl (HL.out _ _ HB.out) ?_
        (try dsimp only)
        refine hK.out _ _ (MK.out _ [_] M2.out) (fun hHeld => ?_)
        clear hK K
        try simp only [Act.put, List.setIfInBounds_toArray, List.set_cons_zero, List.set_cons_succ, List.getElem_toArray, List.getElem_cons_zero, List.getElem_cons_succ]
        refine wpAnyH_take (i := 4) (v := ?_) (by rfl) (by kernel_rfl) (by kernel_rfl) (by kernel_rfl) (fun _ _ _ h => h) (Or.inl ⟨by rfl, ?_⟩) hHeld ?_
        rotate_left
        · intro w' hSw
          (try dsimp only at hSw)
          simp only [List.getElem_toArray, List.getElem_cons_zero, List.getElem_cons_succ]
          go_simp
          all_goals (try with_reducible rfl)
        try simp only [Act.put, List.setIfInBounds_toArray, List.set_cons_zero, List.set_cons_succ, List.getElem_toArray, List.getElem_cons_zero, List.getElem_cons_succ]
        refine wpAnyH_take (i := 5) (v := ?_) (by rfl) (by kernel_rfl) (by kernel_rfl) (by kernel_rfl) (fun _ _ _ h => h) (Or.inl ⟨by rfl, ?_⟩) hHeld ?_
        rotate_left
        · intro w' hSw
          (try dsimp only at hSw)
          simp only [List.getElem_toArray, List.getElem_cons_zero, List.getElem_cons_succ]
          go_simp
          all_goals (try with_reducible rfl)
        try simp only [Act.put, List.setIfInBounds_toArray, List.set_cons_zero, List.set_cons_succ, List.getElem_toArray, List.getElem_cons_zero, List.getElem_cons_succ]
        refine wpAnyH_take (i := 6) (v := ?_) (by rfl) (by kernel_rfl) (by kernel_rfl) (by kernel_rfl) (fun _ _ _ h => h) (Or.inl ⟨by rfl, ?_⟩) hHeld ?_
        rotate_left
        · intro w' hSw
          (try dsimp only at hSw)
          simp only [List.getElem_toArray, List.getElem_cons_zero, List.getElem_cons_succ]
          go_simp
          all_goals (try with_reducible rfl)
        try simp only [Act.put, List.setIfInBounds_toArray, List.set_cons_zero, List.set_cons_succ, List.getElem_toArray, List.getElem_cons_zero, List.getElem_cons_succ]
        refine wpAnyH_ready (rs := [8]) (by kernel_rfl) (by simp) ?_
        refine AllReadyH.cons (by rfl) (fun K hK => ?_) AllReadyH.nil
        simp only [List.getElem_toArray, List.getElem_cons_zero, List.getElem_cons_succ]
        have T := veil (cond_store (a := ca) (b := cb) (c := cc) M2.out.lay mem0 rfl ONE.out.1 ONE.out.2.1 ONE.out.2.2)
        refine wp_store_of (.tmp 5) (.tmp 12) rfl rfl rfl T.out ?_
        have N := M2.out.put 0 rfl [ca, cb, cc]
        simp only [List.set_cons_zero] at N
        replace N := veil N
        clear T
        (try dsimp only)
        refine hK.out _ _ (MK.out _ [_] N.out) (fun hHeld => ?_)
        clear hK K
        try simp only [Act.put, List.setIfInBounds_toArray, List.set_cons_zero, List.set_cons_succ, List.getElem_toArray, List.getElem_cons_zero, List.getElem_cons_succ]
        refine wpAnyH_take (i := 9) (v := ?_) (by rfl) (by kernel_rfl) (by kernel_rfl) (by kernel_rfl) (fun _ _ _ h => h) (Or.inl ⟨by rfl, ?_⟩) hHeld ?_
        rotate_left
        · intro w' hSw
          (try dsimp only at hSw)
          simp only [List.getElem_toArray, List.getElem_cons_zero, List.getElem_cons_succ]
          go_simp
          all_goals (try with_reducible rfl)
        try simp only [Act.put, List.setIfInBounds_toArray, List.set_cons_zero, List.set_cons_succ, List.getElem_toArray, List.getElem_cons_zero, List.getElem_cons_succ]
        refine wpAnyH_done (by kernel_rfl) ?_ _
        refine NoPanic.normal ?_
        clear hHeld
        (try go_wp2_with fail)
        go_meet
        exact ⟨_, rfl, rfl, N⟩
    · skip
      simp only [List.getElem_toArray, List.getElem_cons_zero, List.getElem_cons_succ]
      go_simp
      have M1 := veil (M.out.new [.int .u8 0, .nilFunc, .nilFunc] 60 rfl)
      (try dsimp only)
      refine hK.out _ _ (MK.out _ [_] M1.out) (fun hHeld => ?_)
      clear hK K
      try simp only [Act.put, List.setIfInBounds_toArray, List.set_cons_zero, List.set_cons_succ, List.getElem_toArray, List.getElem_cons_zero, List.getElem_cons_succ]
      refine wpAnyH_ready (rs := [0]) (by kernel_rfl) (by simp) ?_
      refine AllReadyH.cons (by rfl) (fun K hK => ?_) AllReadyH.nil
      simp only [List.getElem_toArray, List.getElem_cons_zero, List.getElem_cons_succ]
      go_simp
      refine (kinds_any _).mono ?_
      rintro e x ⟨rfl, mb, q⟩
      have M2 := veil (M1.out.keep q)
      have HB := veil mb
      clear mb q
      (try dsimp only)
      refine hK.out _ _ (MK.out _ [_] M2.out) (fun hHeld => ?_)
      clear hK K
      try simp only [Act.put, List.setIfInBounds_toArray, List.set_cons_zero, List.set_cons_succ, List.getElem_toArray, List.getElem_cons_zero, List.getElem_cons_succ]
      refine wpAnyH_ready (rs := [3]) (by kernel_rfl) (by simp) ?_
      refine AllReadyH.cons (by rfl) (fun K hK => ?_) AllReadyH.nil
      simp only [List.getElem_toArray, List.getElem_cons_zero, List.getElem_cons_succ]
      refine wp_lookup_of (.tmp 8) (.tmp 10) rfl rfl rfl (HL.out _ _ HB.out) ?_
      (try dsimp only)
      refine hK.out _ _ (MK.out _ [_] M2.out) (fun hHeld => ?_)
      clear hK K
      try simp only [Act.put, List.setIfInBounds_toArray, List.set_cons_zero, List.set_cons_succ, List.getElem_toArray, List.getElem_cons_zero, List.getElem_cons_succ]
      refine wpAnyH_take (i := 4) (v := ?_) (by rfl) (by kernel_rfl) (by kernel_rfl) (by kernel_rfl) (fun _ _ _ h => h) (Or.inl ⟨by rfl, ?_⟩) hHeld ?_
      rotate_left
      · intro w' hSw
        (try dsimp only at hSw)
        simp only [List.getElem_toArray, List.getElem_cons_zero, List.getElem_cons_succ]
        go_simp
        all_goals (try with_reducible rfl)
      try simp only [Act.put, List.setIfInBounds_toArray, List.set_cons_zero, List.set_cons_succ, List.getElem_toArray, List.getElem_cons_zero, List.getElem_cons_succ]
      refine wpAnyH_take (i := 5) (v := ?_) (by rfl) (by kernel_rfl) (by kernel_rfl) (by kernel_rfl) (fun _ _ _ h => h) (Or.inl ⟨by rfl, ?_⟩) hHeld ?_
      rotate_left
      · intro w' hSw
        (try dsimp only at hSw)
        simp only [List.getElem_toArray, List.getElem_cons_zero, List.getElem_cons_succ]
        go_simp
        all_goals (try with_reducible rfl)
      try simp only [Act.put, List.setIfInBounds_toArray, List.set_cons_zero, List.set_cons_succ, List.getElem_toArray, List.getElem_cons_zero, List.getElem_cons_succ]
      refine wpAnyH_take (i := 6) (v := ?_) (by rfl) (by kernel_rfl) (by kernel_rfl) (by kernel_rfl) (fun _ _ _ h => h) (Or.inl ⟨by rfl, ?_⟩) hHeld ?_
      rotate_left
      · intro w' hSw
        (try dsimp only at hSw)
        simp only [List.getElem_toArray, List.getElem_cons_zero, List.getElem_cons_succ]
        go_simp
        all_goals (try with_reducible rfl)
      try simp only [Act.put, List.setIfInBounds_toArray, List.set_cons_zero, List.set_cons_succ, List.getElem_toArray, List.getElem_cons_zero, List.getElem_cons_succ]
      refine wpAnyH_ready (rs := [8]) (by kernel_rfl) (by simp) ?_
      refine AllReadyH.cons (by rfl) (fun K hK => ?_) AllReadyH.nil
      simp only [List.getElem_toArray, List.getElem_cons_zero, List.getElem_cons_succ]
      have T := veil (cond_store (a := ca) (b := cb) (c := cc) M2.out.lay mem0 rfl ONE.out.1 ONE.out.2.1 ONE.out.2.2)
      refine wp_store_of (.tmp 5) (.tmp 12) rfl rfl rfl T.out ?_
      have N := M2.out.put 0 rfl [ca, cb, cc]
      simp only [List.set_cons_zero] at N
      replace N := veil N
      clear T
      (try dsimp only)
      refine hK.out _ _ (MK.out _ [_] N.out) (fun hHeld => ?_)
      clear hK K
      try simp only [Act.put, List.setIfInBounds_toArray, List.set_cons_zero, List.set_cons_succ, List.getElem_toArray, List.getElem_cons_zero, List.getElem_cons_succ]
      refine wpAnyH_take (i := 9) (v := ?_) (by rfl) (by kernel_rfl) (by kernel_rfl) (by kernel_rfl) (fun _ _ _ h => h) (Or.inl ⟨by rfl, ?_⟩) hHeld ?_
      rotate_left
      · intro w' hSw
        (try dsimp only at hSw)
        simp only [List.getElem_toArray, List.getElem_cons_zero, List.getElem_cons_succ]
        go_simp
        all_goals (try with_reducible rfl)
      try simp only [Act.put, List.setIfInBounds_toArray, List.set_cons_zero, List.set_cons_succ, List.getElem_toArray, List.getElem_cons_zero, List.getElem_cons_succ]
      refine wpAnyH_done (by kernel_rfl) ?_ _
      refine NoPanic.normal ?_
      clear hHeld
      (try go_wp2_with fail)
      go_meet
      exact ⟨_, rfl, rfl, N⟩
  case rest =>
    obtain ⟨gc, rfl, rfl, N⟩ := hcut
    clear HL ONE M
    obtain ⟨e1, e2, e3⟩ := HC.out
    subst e1 e2 e3
    clear HC
    have d0 := N.out.lay.look mem0 (o := 0) (v := .int .u8 h) rfl
    have p2 := (pktAt N.out.lay mem2 VG.out.ends).hops
    by_cases hh : k.hops = h
    · have dh : (k.hops == h) = true := by simp [hh]
      have HH := veil hh
      have m1 := (msgAt N.out.lay mem1 VG.out.f).code
      clear hh
      by_cases hc : m.code = 0
      · have dc : (m.code == 0) = true := by simp [hc]
        have HCC := veil hc
        have d1 := N.out.lay.look mem0 (o := 1) (v := fnv f) rfl
        clear hc
        go_wp2_with (refine wpList_load_of rfl _ rfl rfl (pktAt N.out.lay mem2 VG.out.ends).src ?_)
        rw [VE1.out]
        refine (VK1.out _ N.out.knw).mono ?_
        rintro e w3 ⟨rfl, q⟩
        have N := veil (N.out.keep q)
        clear q d0 d1 p2 m1 dh dc
        cases ha : a with
        | false =>
          have HA := veil ha
          clear ha
          go_wp2_with fail
          go_ret
          exact ⟨by rw [HA.out]; simp, N.out.below⟩
        | true =>
          have HA := veil ha
          have d2 := N.out.lay.look mem0 (o := 2) (v := fnv g) rfl
          clear ha
          go_wp2_with (first
            | (refine wpList_load_of rfl (.tmp 2) rfl rfl (pktAt N.out.lay mem2 VG.out.ends).all ?_)
            | (refine wpList_load_of rfl (.tmp 3) rfl rfl (msgAt N.out.lay mem1 VG.out.f).all ?_))
          rw [VE2.out]
          refine (VK2.out _ N.out.knw (HO.out.keep N.out.below)).mono ?_
          rintro e w4 ⟨rfl, q⟩
          have N := veil (N.out.keep q)
          clear q d2
          go_wp2_with fail
          go_ret
          exact ⟨by rw [HA.out, HH.out, HCC.out]; simp, N.out.below⟩
      · have dc : (m.code == 0) = false := by simp [hc]
        have HCC := veil hc
        clear hc
        go_wp2_with fail
        go_ret
        exact ⟨by rw [decide_eq_false HCC.out]; simp, N.out.below⟩
    · have dh : (k.hops == h) = false := by simp [hh]
      have HH := veil hh
      clear hh
      go_wp2_with fail
      go_ret
      exact ⟨by rw [decide_eq_false HH.out]; simp, N.out.below⟩
end

end Go.Proofs.YthkiamkhignchaaDoor.Ck

/-
  Which messages count, in one word; by the code.
  Conditions: the known addresses lie in their table; the message's options are read.
-/
namespace Go.Proofs.YthkiamkhignchaaDoor.Ck
set_option maxRecDepth 100000
open Go.RowKit Ops Hd Oz Mg
open Ad (Knw kn kn_len kn_ok Ok mult ll sol sol_ok isMulticast_any isLinkLocal_any solicited_any unspecified_any eql_any neq_any)

/-- what is asked of a kind: the hops, and the rest -/
def asked (k : Pk) (m : Ms) (os : List (Int × List Int)) : Option (Int × Bool) :=
  if m.kind = 130 then some (1, ll k.s && k.alert) else
  if m.kind = 133 then some (255, hides k os) else
  if m.kind = 134 then some (255, ll k.s) else
  if m.kind = 135 then some (255, asks k m os) else
  if m.kind = 136 then some (255, tells k m) else
  if m.kind = 137 then some (255, ll k.s && leads m) else
  if m.kind = 143 then some (1, (ll k.s || nob k.s) && k.alert) else none
/-- whether a message counts -/
def valid (k : Pk) (m : Ms) (os : List (Int × List Int)) : Bool := match asked k m os with
  | none => true
  | some (h, z) => decide (k.hops = h) && (decide (m.code = 0) && z)

section
variable {k : Pk} {m : Ms} {os : List (Int × List Int)}
theorem valid_of {h : Int} {z : Bool} (e : asked k m os = some (h, z)) : valid k m os = (decide (k.hops = h) && (decide (m.code = 0) && z)) := by unfold valid; rw [e]
theorem valid_free (e : asked k m os = none) : valid k m os = true := by unfold valid; rw [e]
theorem asked_130 (h : m.kind = 130) : asked k m os = some (1, ll k.s && k.alert) := by unfold asked; rw [h]; rfl
theorem asked_133 (h : m.kind = 133) : asked k m os = some (255, hides k os) := by unfold asked; rw [h]; rfl
theorem asked_134 (h : m.kind = 134) : asked k m os = some (255, ll k.s) := by unfold asked; rw [h]; rfl
theorem asked_135 (h : m.kind = 135) : asked k m os = some (255, asks k m os) := by unfold asked; rw [h]; rfl
theorem asked_136 (h : m.kind = 136) : asked k m os = some (255, tells k m) := by unfold asked; rw [h]; rfl
theorem asked_137 (h : m.kind = 137) : asked k m os = some (255, ll k.s && leads m) := by unfold asked; rw [h]; rfl
theorem asked_143 (h : m.kind = 143) : asked k m os = some (1, (ll k.s || nob k.s) && k.alert) := by unfold asked; rw [h]; rfl
theorem asked_none (h : ¬ m.kind = 130 ∧ ¬ m.kind = 133 ∧ ¬ m.kind = 134 ∧ ¬ m.kind = 135 ∧ ¬ m.kind = 136 ∧ ¬ m.kind = 137 ∧ ¬ m.kind = 143) : asked k m os = none := by
  obtain ⟨h0, h3, h4, h5, h6, h7, h8⟩ := h
  unfold asked
  rw [if_neg h0, if_neg h3, if_neg h4, if_neg h5, if_neg h6, if_neg h7, if_neg h8]
theorem kinds_of (m : Ms) : m.kind = 130 ∨ m.kind = 133 ∨ m.kind = 134 ∨ m.kind = 135 ∨ m.kind = 136 ∨ m.kind = 137 ∨ m.kind = 143 ∨ (¬ m.kind = 130 ∧ ¬ m.kind = 133 ∧ ¬ m.kind = 134 ∧ ¬ m.kind = 135 ∧ ¬ m.kind = 136 ∧ ¬ m.kind = 137 ∧ ¬ m.kind = 143) := by omega
end

theorem hit_at {x : Int} {v : Value} (i : Nat) (h : seven[i]? = some (x, v)) {y : Int} (e : y = x) : ∃ p ∈ seven, p.1 = y := ⟨_, List.mem_of_getElem? h, e.symm⟩

/-- the code's answer -/
theorem codeValid (k : Pk) (v : Value) (m : Ms) (os : List (Int × List Int)) (w : World) (hk : Knw w) (G : Gd k m) (hO : Op1 w m.opts os) :
    Calls Tryd.prog 11 #[pv k v, mv m] w fun e w' => e = .returned (.bool (valid k m os)) ∧ Below w.heap.size w w' := by
  have KL : ∀ u, Knw u → Calls Tryd.prog 39 #[av k.s] u fun e w' => e = .returned (.bool (ll k.s)) ∧ Below u.heap.size u w' := fun u _ => isLinkLocal_any k.s u G.s
  have KA : ∀ u, Knw u → Calls Tryd.prog 41 #[av k.s] u fun e w' => e = .returned (.bool true) ∧ Below u.heap.size u w' := fun u _ => anybody_any k.s u
  have KN : ∀ u, Knw u → Calls Tryd.prog 47 #[av k.s] u fun e w' => e = .returned (.bool (ll k.s || nob k.s)) ∧ Below u.heap.size u w' := fun u h => localOrNobody_any k.s u h G.s
  rcases kinds_of m with h | h | h | h | h | h | h | h
  · rw [valid_of (asked_130 h)]
    exact valid_some k v m os w hk G hO 1 39 40 _ _ (hit_at 0 rfl h) (by rw [h]; simp [seven]) (fun _ _ => by kernel_rfl) (fun _ _ => by kernel_rfl) KL (fun u hu _ => onAlert_any k v m u hu G)
  · rw [valid_of (asked_133 h), show hides k os = (true && hides k os) from rfl]
    exact valid_some k v m os w hk G hO 255 41 42 _ _ (hit_at 1 rfl h) (by rw [h]; simp [seven]) (fun _ _ => by kernel_rfl) (fun _ _ => by kernel_rfl) KA (fun u hu ho => hidesNothing_any k v m os u hu G ho)
  · rw [valid_of (asked_134 h), show ll k.s = (ll k.s && true) by simp]
    exact valid_some k v m os w hk G hO 255 39 43 _ _ (hit_at 2 rfl h) (by rw [h]; simp [seven]) (fun _ _ => by kernel_rfl) (fun _ _ => by kernel_rfl) KL (fun u hu _ => noMore_any k v m u hu G)
  · rw [valid_of (asked_135 h), show asks k m os = (true && asks k m os) from rfl]
    exact valid_some k v m os w hk G hO 255 41 44 _ _ (hit_at 3 rfl h) (by rw [h]; simp [seven]) (fun _ _ => by kernel_rfl) (fun _ _ => by kernel_rfl) KA (fun u hu ho => asksOne_any k v m os u hu G ho)
  · rw [valid_of (asked_136 h), show tells k m = (true && tells k m) from rfl]
    exact valid_some k v m os w hk G hO 255 41 45 _ _ (hit_at 4 rfl h) (by rw [h]; simp [seven]) (fun _ _ => by kernel_rfl) (fun _ _ => by kernel_rfl) KA (fun u hu _ => tellsOne_any k v m u hu G)
  · rw [valid_of (asked_137 h)]
    exact valid_some k v m os w hk G hO 255 39 46 _ _ (hit_at 5 rfl h) (by rw [h]; simp [seven]) (fun _ _ => by kernel_rfl) (fun _ _ => by kernel_rfl) KL (fun u hu _ => leadsOn_any k v m u hu G)
  · rw [valid_of (asked_143 h)]
    exact valid_some k v m os w hk G hO 1 47 40 _ _ (hit_at 6 rfl h) (by rw [h]; simp [seven]) (fun _ _ => by kernel_rfl) (fun _ _ => by kernel_rfl) KN (fun u hu _ => onAlert_any k v m u hu G)
  · rw [valid_free (asked_none h)]
    exact valid_none k v m os w hk G hO (by simp only [seven, List.mem_cons, List.not_mem_nil, or_false, forall_eq_or_imp, forall_eq]; omega)

end Go.Proofs.YthkiamkhignchaaDoor.Ck

/-
  Variables made and filled, one single step each, beside the table and blocks that are known whole; packets and messages as literals make them; lists of options as a literal makes them.
  Conditions: none.
-/
namespace Go.Proofs.YthkiamkhignchaaDoor.Ck
set_option maxRecDepth 100000
open Go.RowKit Ops Hd Oz Mg
open Ad (Knw kn kn_len kn_ok Ok mult ll sol sol_ok)

section
variable {w0 w w' : World} {L : List Blk} {g o i : Nat} {t ty : TypeId} {cs vs cs' : List Value} {u : Value} {P : Program}
/-- a value of one cell goes into a block -/
theorem store_single (h : Row w g t cs.toArray) (ho : o < cs.length) (hi : (P.info? ty).map (·.size) = some 1) (h1 : u.oneCell' = true) (hc : u.cells = #[u]) :
    (Instr.storeAt ty (.pointer (some ⟨g, o, none⟩)) u).run P w = .ok () (w.setRow g (cs.set o u).toArray) := by
  have hs := run_storeCells_at P g o t [u] 0 cs.toArray w h (by simp; omega) (by intro v hv; simp at hv; subst hv; exact h1)
  cases hq : P.info? ty with
  | none => simp [hq] at hi
  | some i =>
    have hz : i.size = 1 := by simpa [hq] using hi
    simp only [Instr.storeAt, Instr.sureAddr, Sem.run_bind, Sem.run_pure, Result.andThen_ok]
    simp [storeVar, sizeOf, typeInfo, hq, hc, hz]
    have e : cs.take o ++ u :: cs.drop (o + 1) = cs.set o u := by rw [List.set_eq_take_append_cons_drop, if_pos ho]
    simpa [e] using hs
theorem Kw.fresh (h : Kw w0 w L) (Z : Array Value) (t : TypeId) (cs : List Value) (hz : Z.size = cs.length) (hi : (P.info? t).map (·.size) = some cs.length) (h1 : ∀ v ∈ cs, v.oneCell' = true) :
    ∃ w', (Instr.storeAt t (.pointer (some ⟨w.heap.size, 0, none⟩)) (.agg cs.toArray)).run P (w.alloc (.cells Z t)) = .ok () w' ∧ Kw w0 w' ((w.heap.size, t, cs) :: L) := by
  have Y := h.lay.newA Z t (g := w.heap.size) rfl
  refine ⟨_, store_all (Y.at mem0) (by simpa using hz.symm) hi h1, h.k0, ?_⟩
  have := Y.put 0 rfl cs
  simpa using this
theorem Kw.part (h : Kw w0 w L) (i : Nat) (hi : L[i]? = some (g, t, cs)) (o : Nat) (vs : List Value) (ty : TypeId) (ho : o + vs.length ≤ cs.length) (hs : (P.info? ty).map (·.size) = some vs.length) (h1 : ∀ v ∈ vs, v.oneCell' = true) (he : cs.take o ++ vs ++ cs.drop (o + vs.length) = cs') :
    ∃ w', (Instr.storeAt ty (.pointer (some ⟨g, o, none⟩)) (.agg vs.toArray)).run P w = .ok () w' ∧ Kw w0 w' (L.set i (g, t, cs')) := by
  subst he
  exact ⟨_, store_part (h.lay.row _ (List.mem_of_getElem? hi)) ho hs h1, h.put i hi _⟩
theorem Kw.single (h : Kw w0 w L) (i : Nat) (hi : L[i]? = some (g, t, cs)) (o : Nat) (u : Value) (ty : TypeId) (ho : o < cs.length) (hs : (P.info? ty).map (·.size) = some 1) (h1 : u.oneCell' = true) (hc : u.cells = #[u]) (he : cs.set o u = cs') :
    ∃ w', (Instr.storeAt ty (.pointer (some ⟨g, o, none⟩)) u).run P w = .ok () w' ∧ Kw w0 w' (L.set i (g, t, cs')) := by
  subst he
  exact ⟨_, store_single (h.lay.row _ (List.mem_of_getElem? hi)) ho hs h1 hc, h.put i hi _⟩
end
theorem size_u8 : (Tryd.prog.info? 5).map (·.size) = some 1 := by kernel_rfl
theorem size_bool : (Tryd.prog.info? 4).map (·.size) = some 1 := by kernel_rfl
theorem size_opts : (Tryd.prog.info? 31).map (·.size) = some 1 := by kernel_rfl
theorem size_bytes : (Tryd.prog.info? 28).map (·.size) = some 1 := by kernel_rfl

/-- a variable for a message, as it is made -/
def zm : Array Value := #[.int .u8 0, .int .u8 0, .int .u32 0, .slice none 0 0, .int .u8 0, .int .u8 0, .int .u16 0, .int .u32 0, .int .u32 0, .int .u8 0, .int .u8 0, .int .u8 0, .int .u8 0, .int .u8 0, .int .u8 0, .int .u8 0, .int .u8 0, .int .u8 0, .int .u8 0, .int .u8 0, .int .u8 0, .int .u8 0, .int .u8 0, .int .u8 0, .int .u8 0, .int .u8 0, .int .u8 0, .int .u8 0, .int .u8 0, .int .u8 0, .int .u8 0, .int .u8 0, .int .u8 0, .int .u8 0, .int .u8 0, .int .u8 0, .int .u8 0, .int .u8 0, .int .u8 0, .int .u8 0, .int .u8 0, .slice none 0 0, .int .u16 0, .int .u8 0, .int .u8 0, .int .u8 0, .int .u8 0, .int .u8 0, .int .u8 0, .int .u8 0, .int .u8 0, .int .u8 0, .int .u8 0, .int .u8 0, .int .u8 0, .int .u8 0, .int .u8 0, .int .u8 0, .int .u8 0, .int .u8 0, .int .u8 0, .slice none 0 0, .slice none 0 0]
theorem zm_mc : zm = (mc {}).toArray := rfl
theorem zm_size : zm.size = 63 := rfl
theorem zp_size : zp.size = 40 := rfl

/-- four kinds of literals -/
theorem made_dst_lit (a0 a1 a2 a3 a4 a5 a6 a7 a8 a9 a10 a11 a12 a13 a14 a15 x : Int) (w : World) : (Instr.build 30 #[(1, av [a0, a1, a2, a3, a4, a5, a6, a7, a8, a9, a10, a11, a12, a13, a14, a15]), (2, .int .u8 x)]).run Tryd.prog w = .ok (pv { s := z16, d := [a0, a1, a2, a3, a4, a5, a6, a7, a8, a9, a10, a11, a12, a13, a14, a15], hops := x } (.slice none 0 0)) w := by kernel_rfl
theorem made_dst {d : List Int} (h : d.length = 16) (x : Int) (w : World) : (Instr.build 30 #[(1, av d), (2, .int .u8 x)]).run Tryd.prog w = .ok (pv { s := z16, d := d, hops := x } (.slice none 0 0)) w := by
  match d, h with
  | [a0, a1, a2, a3, a4, a5, a6, a7, a8, a9, a10, a11, a12, a13, a14, a15], _ => exact made_dst_lit a0 a1 a2 a3 a4 a5 a6 a7 a8 a9 a10 a11 a12 a13 a14 a15 x w
theorem made_src_lit (a0 a1 a2 a3 a4 a5 a6 a7 a8 a9 a10 a11 a12 a13 a14 a15 x : Int) (w : World) : (Instr.build 30 #[(0, av [a0, a1, a2, a3, a4, a5, a6, a7, a8, a9, a10, a11, a12, a13, a14, a15]), (2, .int .u8 x)]).run Tryd.prog w = .ok (pv { s := [a0, a1, a2, a3, a4, a5, a6, a7, a8, a9, a10, a11, a12, a13, a14, a15], d := z16, hops := x } (.slice none 0 0)) w := by kernel_rfl
theorem made_src {d : List Int} (h : d.length = 16) (x : Int) (w : World) : (Instr.build 30 #[(0, av d), (2, .int .u8 x)]).run Tryd.prog w = .ok (pv { s := d, d := z16, hops := x } (.slice none 0 0)) w := by
  match d, h with
  | [a0, a1, a2, a3, a4, a5, a6, a7, a8, a9, a10, a11, a12, a13, a14, a15], _ => exact made_src_lit a0 a1 a2 a3 a4 a5 a6 a7 a8 a9 a10 a11 a12 a13 a14 a15 x w
theorem made_kind (x : Int) (w : World) : (Instr.build 35 #[(0, .int .u8 x)]).run Tryd.prog w = .ok (mv { kind := x }) w := by kernel_rfl
theorem made_target_lit (a0 a1 a2 a3 a4 a5 a6 a7 a8 a9 a10 a11 a12 a13 a14 a15 x : Int) (w : World) : (Instr.build 35 #[(0, .int .u8 x), (9, av [a0, a1, a2, a3, a4, a5, a6, a7, a8, a9, a10, a11, a12, a13, a14, a15])]).run Tryd.prog w = .ok (mv { kind := x, t := [a0, a1, a2, a3, a4, a5, a6, a7, a8, a9, a10, a11, a12, a13, a14, a15] }) w := by kernel_rfl
theorem made_target {d : List Int} (h : d.length = 16) (x : Int) (w : World) : (Instr.build 35 #[(0, .int .u8 x), (9, av d)]).run Tryd.prog w = .ok (mv { kind := x, t := d }) w := by
  match d, h with
  | [a0, a1, a2, a3, a4, a5, a6, a7, a8, a9, a10, a11, a12, a13, a14, a15], _ => exact made_target_lit a0 a1 a2 a3 a4 a5 a6 a7 a8 a9 a10 a11 a12 a13 a14 a15 x w
theorem made_opt (x : Int) (w : World) : (Instr.build 46 #[(0, .int .u8 x)]).run Tryd.prog w = .ok (ov ⟨x, none, 0, 0⟩) w := by kernel_rfl
theorem made_one (x : Int) (w : World) : (Instr.buildSlice 31 1 #[(0, ov ⟨x, none, 0, 0⟩)]).run Tryd.prog w = .ok (.slice (some ⟨w.heap.size, 0, none⟩) 1 1) (w.alloc (.cells (cv [⟨x, none, 0, 0⟩]).toArray 46)) := by kernel_rfl
theorem made_two (x y : Int) (w : World) : (Instr.buildSlice 31 2 #[(0, ov ⟨x, none, 0, 0⟩), (1, ov ⟨y, none, 0, 0⟩)]).run Tryd.prog w = .ok (.slice (some ⟨w.heap.size, 0, none⟩) 2 2) (w.alloc (.cells (cv [⟨x, none, 0, 0⟩, ⟨y, none, 0, 0⟩]).toArray 46)) := by kernel_rfl

/-- options without bytes in a block of their own -/
theorem reads_bare {w0 w : World} {L : List Blk} {g : Nat} {t : TypeId} {ks : List Int} (h : Lay w0 w L) (hm : (g, t, cv (ks.map fun x => ⟨x, none, 0, 0⟩)) ∈ L) : Reads w (some ⟨g, 0, none⟩) (ks.map fun x => (x, [])) := fun i o ho => by
  rw [List.getElem?_map] at ho
  obtain ⟨x, hx, rfl⟩ := Option.map_eq_some_iff.1 ho
  obtain ⟨h1, h2⟩ := cv_at (l := ks.map fun x => (⟨x, none, 0, 0⟩ : El)) (i := i) (x := ⟨x, none, 0, 0⟩) (by rw [List.getElem?_map, hx]; rfl)
  have ea : (⟨g, 0, none⟩ : Addr).add (i * 2) = ⟨g, i * 2, none⟩ := by
    unfold Addr.add
    split
    · rename_i e
      rw [e]
    · simp
  exact ⟨_, ⟨x, none, 0, 0⟩, rfl, ⟨by rw [ea]; exact h.look hm h1, by rw [ea]; exact h.look hm h2⟩, rfl, .inl ⟨rfl, rfl⟩⟩
theorem op1_bare {w0 w : World} {L : List Blk} {g n : Nat} {t : TypeId} {ks : List Int} (h : Lay w0 w L) (hm : (g, t, cv (ks.map fun x => ⟨x, none, 0, 0⟩)) ∈ L) (hn : ks.length = n) (h64 : n ≤ 64) : Op1 w (.slice (some ⟨g, 0, none⟩) n n) (ks.map fun x => (x, [])) :=
  ⟨⟨_, n, by rw [List.length_map, hn], reads_bare h hm⟩, by rw [List.length_map, hn]; omega⟩

/-- a packet's or a message's parts written anew -/
theorem pc_puts {k : Pk} {v : Value} {xs : List Int} (h : k.s.length = 16) (hx : xs.length = 16) : (pc k v).take 0 ++ bv xs ++ (pc k v).drop (0 + (bv xs).length) = pc { k with s := xs } v := by
  unfold pc
  rw [List.take_zero, List.nil_append, List.drop_append_of_le_length (by simp [bv_length, h, hx]), List.drop_of_length_le (by simp [bv_length, h, hx]), List.nil_append]
theorem pc_putd {k : Pk} {v : Value} {xs : List Int} (h : Hd.Ends k) (hx : xs.length = 16) : (pc k v).take 16 ++ bv xs ++ (pc k v).drop (16 + (bv xs).length) = pc { k with d := xs } v := by
  unfold pc
  have e : (bv k.s).length = 16 := by rw [bv_length, h.s]
  have e2 : (bv k.d).length = 16 := by rw [bv_length, h.d]
  rw [List.take_left' e, bv_length, hx, ← List.drop_drop, List.drop_left' e, List.drop_left' e2, List.append_assoc]
theorem mc_opts {m : Ms} (h : Fine3 m) (u : Value) : (mc m).set 41 u = mc { m with opts := u } := by
  unfold mc
  rw [List.set_append_right _ _ (by simp), List.set_append_right _ _ (by simp [bv_length, h.t]), List.set_append_right _ _ (by simp [bv_length, h.t, h.d])]
  simp [bv_length, h.t, h.d]

theorem z16_ok : Ok z16 := ⟨rfl, by unfold Byt z16; decide⟩
theorem gd_of {k : Pk} {m : Ms} (hs : Ok k.s) (hd : Ok k.d) (ht : Ok m.t) (he : Ok m.d) (hf : Fine3 m) (hl : 0 ≤ m.flags ∧ m.flags ≤ 255) (hk : 0 ≤ m.kind ∧ m.kind ≤ 255) : Gd k m := ⟨hs, hd, ht, he, hf, hl, hk⟩

end Go.Proofs.YthkiamkhignchaaDoor.Ck

/-
  Kinds of messages that the laws tell apart.
  Conditions: none.
-/
namespace Go.Proofs.YthkiamkhignchaaDoor.Ck
set_option maxRecDepth 100000
open Go.RowKit Ops Hd Mg

def lis (x : Int) : Bool := x == 130 || x == 143
def kno (x : Int) : Bool := lis x || (decide (133 ≤ x) && decide (x ≤ 137))

theorem listens_any (m : Ms) (w : World) (F : Fine3 m) : Calls Tryd.prog 16 #[mv m] w fun e w' => e = .returned (.bool (lis m.kind)) ∧ Below w.heap.size w w' := by
  have M := veil ((Lay.begin w).new (mc m) 35 rfl)
  have c0 := (msgAt M.out mem0 F).kind
  clear F
  generalize m.kind = kd at *
  by_cases h : kd = 130
  · subst h
    go_enter Tryd.func16, Tryd.ntmps16
    go_wp2_with fail
    go_ret
    exact ⟨rfl, M.out.below⟩
  · have d0 : (kd == 130) = false := by simp [h]
    have HL : Hid (lis kd = (kd == 143)) := veil (by unfold lis; rw [d0]; rfl)
    go_enter Tryd.func16, Tryd.ntmps16
    go_wp2_with fail
    go_ret
    exact ⟨by rw [HL.out]; rfl, M.out.below⟩

theorem knows_any (m : Ms) (w : World) (F : Fine3 m) : Calls Tryd.prog 15 #[mv m] w fun e w' => e = .returned (.bool (kno m.kind)) ∧ Below w.heap.size w w' := by
  have M := veil ((Lay.begin w).new (mc m) 35 rfl)
  have HF := veil F
  clear F
  go_enter Tryd.func15, Tryd.ntmps15
  go_wp2_with (refine wpList_load_of rfl _ rfl rfl (msgAt M.out mem0 HF.out).all ?_)
  generalize w.alloc (.cells (mc m).toArray 35) = w1 at *
  refine (listens_any m _ HF.out).mono ?_
  rintro e w2 ⟨rfl, q⟩
  have M := veil (M.out.keep q)
  have c0 := (msgAt M.out mem0 HF.out).kind
  clear q HF
  obtain ⟨kd, hkd⟩ : ∃ x, m.kind = x := ⟨_, rfl⟩
  rw [hkd] at c0
  have HKD := veil hkd
  clear hkd
  cases hl : lis m.kind with
  | true =>
    have HL := veil hl
    clear hl
    go_wp2_with fail
    go_ret
    exact ⟨by unfold kno; rw [HL.out, HKD.out]; rfl, M.out.below⟩
  | false =>
    have HL := veil hl
    clear hl
    by_cases h1 : 133 ≤ kd
    · go_wp2_with fail
      go_ret
      exact ⟨by unfold kno; rw [HL.out, HKD.out]; simp [h1], M.out.below⟩
    · go_wp2_with fail
      go_ret
      exact ⟨by unfold kno; rw [HL.out, HKD.out, show decide (133 ≤ kd) = false from decide_eq_false (by omega)]; rfl, M.out.below⟩
theorem kno_none {k : Pk} {m : Ms} {os : List (Int × List Int)} (h : kno m.kind = false) : valid k m os = true := by
  refine valid_free (asked_none ?_)
  unfold kno lis at h
  simp only [Bool.or_eq_false_iff, beq_eq_false_iff_ne, Bool.and_eq_false_iff, decide_eq_false_iff_not] at h
  omega
/-- hops of a kind -/
def own (x : Int) : Int := if lis x then 1 else 255
theorem kno_some {k : Pk} {m : Ms} {os : List (Int × List Int)} (h : kno m.kind = true) (v : valid k m os = true) : k.hops = own m.kind ∧ m.code = 0 ∧ (lis m.kind = true → k.alert = true) := by
  have key : ∀ {z : Bool} (x : Int), asked k m os = some (x, z) → x = own m.kind → (z = true → lis m.kind = true → k.alert = true) → k.hops = own m.kind ∧ m.code = 0 ∧ (lis m.kind = true → k.alert = true) := fun {z} x e hx hz => by
    rw [valid_of e] at v
    simp only [Bool.and_eq_true, decide_eq_true_eq] at v
    exact ⟨by rw [v.1, hx], v.2.1, hz v.2.2⟩
  rcases kinds_of m with e | e | e | e | e | e | e | e
  · exact key 1 (asked_130 e) (by rw [e]; rfl) (fun z _ => by simp at z; exact z.2)
  · exact key 255 (asked_133 e) (by rw [e]; rfl) (fun _ l => by rw [e] at l; exact absurd l (by decide))
  · exact key 255 (asked_134 e) (by rw [e]; rfl) (fun _ l => by rw [e] at l; exact absurd l (by decide))
  · exact key 255 (asked_135 e) (by rw [e]; rfl) (fun _ l => by rw [e] at l; exact absurd l (by decide))
  · exact key 255 (asked_136 e) (by rw [e]; rfl) (fun _ l => by rw [e] at l; exact absurd l (by decide))
  · exact key 255 (asked_137 e) (by rw [e]; rfl) (fun _ l => by rw [e] at l; exact absurd l (by decide))
  · exact key 1 (asked_143 e) (by rw [e]; rfl) (fun z _ => by simp at z; exact z.2)
  · unfold kno lis at h
    simp only [Bool.or_eq_true, beq_iff_eq, Bool.and_eq_true, decide_eq_true_eq] at h
    omega

end Go.Proofs.YthkiamkhignchaaDoor.Ck

/-
  Records and messages, opened.
  Conditions: none.
-/
namespace Go.Proofs.YthkiamkhignchaaDoor.Mg
set_option maxRecDepth 100000
open Go.ChangeShapes Go.WideShapes Go.ChangeAt Go.RowKit Hd
open Oz (Reads ReadsA Fine open_options open_addrs add_field cells_u8 off_add)

/-- a record: kind, group, sources -/
structure Rc where
  k : Int
  g : List Int
  s : List (List Int)
deriving Inhabited
/-- a record's cells in memory -/
structure RcAt (w : World) (b : Addr) (r : Rc) : Prop where
  kind : w.cell? b = some (.int .u8 r.k)
  len : r.g.length = 16
  grp : Rd w (some ⟨b.block, b.off + 1, none⟩) r.g
  srcs : ∃ B c, w.cell? ⟨b.block, b.off + 17, none⟩ = some (.slice B r.s.length c) ∧ ReadsA w B r.s
theorem RcAt.keep {w w' : World} {b : Addr} {r : Rc} (h : RcAt w b r) (q : Below w.heap.size w w') : RcAt w' b r := by
  have hk : ∀ (a : Addr) (v : Value), w.cell? a = some v → w'.cell? a = some v := fun a v hv => by
    have hlt : a.block < w.heap.size := by
      unfold World.cell? at hv
      cases hb : w.heap[a.block]? with
      | none => simp [hb] at hv
      | some o => exact (Array.getElem?_eq_some_iff.1 hb).1
    unfold World.cell? at hv ⊢
    rw [q.block a.block hlt]
    exact hv
  obtain ⟨B, c, h1, h2⟩ := h.srcs
  exact ⟨hk _ _ h.kind, h.len, h.grp.keep q, B, c, hk _ _ h1, h2.keep q⟩
/-- a slice that reads as records -/
def ReadsR (w : World) (A : Option Addr) (rs : List Rc) : Prop := ∀ (i : Nat) (r : Rc), rs[i]? = some r → ∃ a, A = some a ∧ RcAt w (a.add (i * 18)) r
theorem ReadsR.keep {w w' : World} {A : Option Addr} {rs : List Rc} (h : ReadsR w A rs) (q : Below w.heap.size w w') : ReadsR w' A rs := fun i r hi => by
  obtain ⟨a, e, k⟩ := h i r hi
  exact ⟨a, e, k.keep q⟩
/-- a record as a caller hands it in -/
structure FineR (r : Rc) : Prop where
  k : 0 ≤ r.k ∧ r.k ≤ 255
  g : Byt r.g
  s : ∀ a ∈ r.s, Byt a
  n : r.s.length ≤ 8796093022208

theorem cells_addr : Tryd.prog.cellsOf 23 = 16 := by kernel_rfl
theorem cells_addrs : Tryd.prog.cellsOf 32 = 1 := by kernel_rfl
theorem cells_rec : Tryd.prog.cellsOf 53 = 18 := by kernel_rfl
theorem open_record {W : World} {cs : List Value} {a : Addr} {p : Nat} (h : Opens W 53 cs) (hc : ∀ j, j < 18 → W.cell? (a.add (p + j)) = cs[j]?) : ∃ r, RcAt W (a.add p) r ∧ FineR r := by
  obtain ⟨hl, hf⟩ := h.struct Tryd.underlying53
  rw [cells_rec] at hl
  have h0 : Opens W 5 (List.take (Tryd.prog.cellsOf 5) (List.drop 0 cs)) := hf 0 _ rfl
  have h1 : Opens W 23 (List.take (Tryd.prog.cellsOf 23) (List.drop 1 cs)) := hf 1 _ rfl
  have h2 : Opens W 32 (List.take (Tryd.prog.cellsOf 32) (List.drop 17 cs)) := hf 2 _ rfl
  rw [cells_u8] at h0
  rw [cells_addr] at h1
  rw [cells_addrs] at h2
  obtain ⟨k, e0, w0⟩ := h0.int Tryd.underlying5
  obtain ⟨g, e1, l1, y1⟩ := opens_addr h1
  obtain ⟨B, n, c, az, e2, _, k2, k3, k4, k5⟩ := open_addrs h2
  subst k3
  have g0 : cs[0]? = some (.int .u8 k) := by have := congrArg (fun l => l[0]?) e0; simpa using this
  have g1 : ∀ j, j < 16 → cs[1 + j]? = some (.int .u8 (g.getD j 0)) := fun j hj => by
    have := congrArg (fun l => l[j]?) e1
    simp only [List.getElem?_take, List.getElem?_drop, if_pos hj] at this
    rw [this]
    simp [bv, List.getD, l1, hj]
  have g2 : cs[17]? = some (.slice B az.length c) := by have := congrArg (fun l => l[0]?) e2; simpa using this
  refine ⟨⟨k, g, az⟩, ⟨?_, l1, fun j hj => ⟨_, rfl, ?_⟩, B, c, ?_, k4⟩, ⟨u8_of w0, y1, k5, k2⟩⟩
  · rw [← g0, ← hc 0 (by omega), Nat.add_zero]
  · simp only at hj
    rw [l1] at hj
    rw [← g1 j hj, ← hc (1 + j) (by omega), add_field a p (1 + j) (by omega)]
    congr 1
    unfold Addr.add
    split
    · subst_vars
      rfl
    · simp only [Nat.add_assoc]
  · rw [← g2, ← hc 17 (by omega), add_field a p 17 (by omega)]
theorem open_records {W : World} {cs : List Value} (h : Opens W 33 cs) : ∃ A n c rs, cs = [.slice A n c] ∧ n ≤ c ∧ n ≤ 2932031007403 ∧ rs.length = n ∧ ReadsR W A rs ∧ ∀ r ∈ rs, FineR r := by
  obtain ⟨A, n, c, rfl, h1, _, h3, _, hx⟩ := h.slice Tryd.underlying33
  rw [cells_rec] at hx
  rw [show Tryd.prog.bytesOf 53 = 48 by kernel_rfl] at h3
  have h2 : n ≤ 2932031007403 := by unfold reachBytes at h3; omega
  obtain ⟨f, hf⟩ := Go.Deep.choose_lt (α := Rc) (p := fun i r => (∃ a, A = some a ∧ RcAt W (a.add (i * 18)) r) ∧ FineR r) (fun i hi => by
    obtain ⟨a, cs', rfl, hlen, hc, ho⟩ := hx i hi
    obtain ⟨r, k1, k2⟩ := open_record ho hc
    exact ⟨r, ⟨a, rfl, k1⟩, k2⟩)
  refine ⟨A, n, c, (List.range n).map f, rfl, h1, h2, by simp, fun i r ho => ?_, fun r hr => ?_⟩
  · have hi : i < n := by have := (List.getElem?_eq_some_iff.1 ho).1; simpa using this
    simp [hi] at ho
    subst ho
    exact (hf i hi).1
  · simp at hr
    obtain ⟨i, hi, rfl⟩ := hr
    exact (hf i hi).2

/-- a message as a caller hands it in: what its lists are -/
structure MsIn (W : World) (m : Ms) (zs : List Int) (os : List (Int × List Int)) (az : List (List Int)) (rs : List Rc) : Prop where
  f : Fine3 m
  t : Byt m.t
  d : Byt m.d
  g : Byt m.grp
  kind : 0 ≤ m.kind ∧ m.kind ≤ 255
  code : 0 ≤ m.code ∧ m.code ≤ 255
  param : 0 ≤ m.param ∧ m.param < 4294967296
  hops : 0 ≤ m.hops ∧ m.hops ≤ 255
  flags : 0 ≤ m.flags ∧ m.flags ≤ 255
  life : 0 ≤ m.life ∧ m.life < 65536
  reach : 0 ≤ m.reach ∧ m.reach < 4294967296
  retr : 0 ≤ m.retr ∧ m.retr < 4294967296
  max : 0 ≤ m.max ∧ m.max < 65536
  rob : 0 ≤ m.rob ∧ m.rob ≤ 255
  intv : 0 ≤ m.intv ∧ m.intv ≤ 255
  data : ∃ A c, m.data = .slice A zs.length c ∧ Slc W (.slice A zs.length c) zs
  byt : Byt zs
  dn : zs.length ≤ 140737488355328
  opts : ∃ A c, m.opts = .slice A os.length c ∧ Reads W A os
  ofin : Fine os
  on : os.length ≤ 140737488355328
  srcs : ∃ A c, m.srcs = .slice A az.length c ∧ ReadsA W A az
  sbyt : ∀ a ∈ az, Byt a
  sn : az.length ≤ 8796093022208
  recs : ∃ A c, m.recs = .slice A rs.length c ∧ ReadsR W A rs
  rfin : ∀ r ∈ rs, FineR r
  rn : rs.length ≤ 2932031007403

theorem opens_bytes2 {W : World} {cs : List Value} (h : Opens W 28 cs) : ∃ A c zs, cs = [.slice A zs.length c] ∧ Slc W (.slice A zs.length c) zs ∧ Byt zs ∧ zs.length ≤ 140737488355328 := by
  obtain ⟨A, c, zs, e, h1, _, h3, h4, h5, h6⟩ := h.nums Tryd.underlying28 Tryd.underlying5 cellsByte
  rw [show Tryd.prog.bytesOf 5 = 1 by kernel_rfl] at h3
  exact ⟨A, c, zs, e, slc_nums h1 h4 h5, fun z h => u8_of (h6 z h), by unfold reachBytes at h3; omega⟩
theorem open_message {W : World} {v : Value} {r : Reach} {b0 : Nat} (hv : Value.okWide Tryd.prog W r b0 35 v) (h : Opens W 35 v.cells.toList) : ∃ m zs os az rs, v = mv m ∧ MsIn W m zs os az rs := by
  obtain ⟨ca, rfl, _⟩ := okWide_struct Tryd.underlying35 hv
  obtain ⟨cs, hcs⟩ : ∃ cs, ca.toList = cs := ⟨_, rfl⟩
  replace h : Opens W 35 cs := by rw [← hcs]; exact h
  obtain ⟨hl, hf⟩ := h.struct Tryd.underlying35
  rw [show Tryd.prog.cellsOf 35 = 63 by kernel_rfl] at hl
  have h0 : Opens W 5 (List.take (Tryd.prog.cellsOf 5) (List.drop 0 cs)) := hf 0 _ rfl
  have h1 : Opens W 5 (List.take (Tryd.prog.cellsOf 5) (List.drop 1 cs)) := hf 1 _ rfl
  have h2 : Opens W 24 (List.take (Tryd.prog.cellsOf 24) (List.drop 2 cs)) := hf 2 _ rfl
  have h3 : Opens W 28 (List.take (Tryd.prog.cellsOf 28) (List.drop 3 cs)) := hf 3 _ rfl
  have h4 : Opens W 5 (List.take (Tryd.prog.cellsOf 5) (List.drop 4 cs)) := hf 4 _ rfl
  have h5 : Opens W 5 (List.take (Tryd.prog.cellsOf 5) (List.drop 5 cs)) := hf 5 _ rfl
  have h6 : Opens W 25 (List.take (Tryd.prog.cellsOf 25) (List.drop 6 cs)) := hf 6 _ rfl
  have h7 : Opens W 24 (List.take (Tryd.prog.cellsOf 24) (List.drop 7 cs)) := hf 7 _ rfl
  have h8 : Opens W 24 (List.take (Tryd.prog.cellsOf 24) (List.drop 8 cs)) := hf 8 _ rfl
  have h9 : Opens W 23 (List.take (Tryd.prog.cellsOf 23) (List.drop 9 cs)) := hf 9 _ rfl
  have h10 : Opens W 23 (List.take (Tryd.prog.cellsOf 23) (List.drop 25 cs)) := hf 10 _ rfl
  have h11 : Opens W 31 (List.take (Tryd.prog.cellsOf 31) (List.drop 41 cs)) := hf 11 _ rfl
  have h12 : Opens W 25 (List.take (Tryd.prog.cellsOf 25) (List.drop 42 cs)) := hf 12 _ rfl
  have h13 : Opens W 23 (List.take (Tryd.prog.cellsOf 23) (List.drop 43 cs)) := hf 13 _ rfl
  have h14 : Opens W 5 (List.take (Tryd.prog.cellsOf 5) (List.drop 59 cs)) := hf 14 _ rfl
  have h15 : Opens W 5 (List.take (Tryd.prog.cellsOf 5) (List.drop 60 cs)) := hf 15 _ rfl
  have h16 : Opens W 32 (List.take (Tryd.prog.cellsOf 32) (List.drop 61 cs)) := hf 16 _ rfl
  have h17 : Opens W 33 (List.take (Tryd.prog.cellsOf 33) (List.drop 62 cs)) := hf 17 _ rfl
  rw [cells_u8] at h0 h1 h4 h5 h14 h15
  rw [show Tryd.prog.cellsOf 24 = 1 by kernel_rfl] at h2 h7 h8
  rw [show Tryd.prog.cellsOf 25 = 1 by kernel_rfl] at h6 h12
  rw [cells_addr] at h9 h10 h13
  rw [show Tryd.prog.cellsOf 28 = 1 by kernel_rfl] at h3
  rw [show Tryd.prog.cellsOf 31 = 1 by kernel_rfl] at h11
  rw [cells_addrs] at h16
  rw [show Tryd.prog.cellsOf 33 = 1 by kernel_rfl] at h17
  obtain ⟨n0, e0, w0⟩ := h0.int Tryd.underlying5
  obtain ⟨n1, e1, w1⟩ := h1.int Tryd.underlying5
  obtain ⟨n2, e2, w2⟩ := h2.int Tryd.underlying24
  obtain ⟨A3, c3, zs, e3, s3, y3, l3⟩ := opens_bytes2 h3
  obtain ⟨n4, e4, w4⟩ := h4.int Tryd.underlying5
  obtain ⟨n5, e5, w5⟩ := h5.int Tryd.underlying5
  obtain ⟨n6, e6, w6⟩ := h6.int Tryd.underlying25
  obtain ⟨n7, e7, w7⟩ := h7.int Tryd.underlying24
  obtain ⟨n8, e8, w8⟩ := h8.int Tryd.underlying24
  obtain ⟨t, e9, l9, y9⟩ := opens_addr h9
  obtain ⟨d, e10, l10, y10⟩ := opens_addr h10
  obtain ⟨A11, m11, c11, os, e11, _, l11, k11, r11, f11⟩ := open_options h11
  obtain ⟨n12, e12, w12⟩ := h12.int Tryd.underlying25
  obtain ⟨g, e13, l13, y13⟩ := opens_addr h13
  obtain ⟨n14, e14, w14⟩ := h14.int Tryd.underlying5
  obtain ⟨n15, e15, w15⟩ := h15.int Tryd.underlying5
  obtain ⟨A16, m16, c16, az, e16, _, l16, k16, r16, f16⟩ := open_addrs h16
  obtain ⟨A17, m17, c17, rs, e17, _, l17, k17, r17, f17⟩ := open_records h17
  subst k11 k16 k17
  refine ⟨⟨n0, n1, n2, .slice A3 zs.length c3, n4, n5, n6, n7, n8, t, d, .slice A11 os.length c11, n12, g, n14, n15, .slice A16 az.length c16, .slice A17 rs.length c17⟩, zs, os, az, rs, ?_,
    ⟨⟨l9, l10, l13, rfl, rfl, rfl, rfl⟩, y9, y10, y13, u8_of w0, u8_of w1, u32_of w2, u8_of w4, u8_of w5, u16_of w6, u32_of w7, u32_of w8, u16_of w12, u8_of w14, u8_of w15,
     ⟨A3, c3, rfl, s3⟩, y3, l3, ⟨A11, c11, rfl, r11⟩, f11, l11, ⟨A16, c16, rfl, r16⟩, f16, l16, ⟨A17, c17, rfl, r17⟩, f17, l17⟩⟩
  have a17 : (cs.drop 62).take 1 = cs.drop 62 := List.take_of_length_le (by simp; omega)
  have step : ∀ (i j : Nat), (cs.drop i).take j ++ cs.drop (i + j) = cs.drop i := fun i j => by
    have := List.take_append_drop j (cs.drop i)
    rwa [List.drop_drop] at this
  have e : cs = (cs.drop 0).take 1 ++ ((cs.drop 1).take 1 ++ ((cs.drop 2).take 1 ++ ((cs.drop 3).take 1 ++ ((cs.drop 4).take 1 ++ ((cs.drop 5).take 1 ++ ((cs.drop 6).take 1 ++ ((cs.drop 7).take 1 ++ ((cs.drop 8).take 1 ++ ((cs.drop 9).take 16 ++ ((cs.drop 25).take 16 ++ ((cs.drop 41).take 1 ++ ((cs.drop 42).take 1 ++ ((cs.drop 43).take 16 ++ ((cs.drop 59).take 1 ++ ((cs.drop 60).take 1 ++ ((cs.drop 61).take 1 ++ (cs.drop 62).take 1)))))))))))))))) := by
    rw [a17, step 61 1, step 60 1, step 59 1, step 43 16, step 42 1, step 41 1, step 25 16, step 9 16, step 8 1, step 7 1, step 6 1, step 5 1, step 4 1, step 3 1, step 2 1, step 1 1, step 0 1, List.drop_zero]
  have e' : ca.toList = mc ⟨n0, n1, n2, .slice A3 zs.length c3, n4, n5, n6, n7, n8, t, d, .slice A11 os.length c11, n12, g, n14, n15, .slice A16 az.length c16, .slice A17 rs.length c17⟩ := by
    rw [hcs, e, e0, e1, e2, e3, e4, e5, e6, e7, e8, e9, e10, e11, e12, e13, e14, e15, e16, e17]
    rfl
  show Value.agg ca = .agg (mc _).toArray
  rw [← e']

end Go.Proofs.YthkiamkhignchaaDoor.Mg

/-
  How great a message is.
  Conditions: none.
-/
namespace Go.Proofs.YthkiamkhignchaaDoor.Mg
set_option maxRecDepth 100000
open Go.RowKit Ops Hd
open Oz (Reads ReadsA Fine sumL great_any)

/-- what records take -/
def sumR (rs : List Rc) : Nat := (rs.map fun r => 20 + 16 * r.s.length).sum
theorem sumR_next {rs : List Rc} {i : Nat} {r : Rc} (h : rs[i]? = some r) : sumR (rs.take (i + 1)) = sumR (rs.take i) + (20 + 16 * r.s.length) := by
  have : rs.take (i + 1) = rs.take i ++ [r] := by
    rw [List.take_add_one, h]
    rfl
  unfold sumR
  rw [this]
  simp
theorem sumR_take (rs : List Rc) (i : Nat) : sumR (rs.take i) ≤ sumR rs := by
  have : sumR rs = sumR (rs.take i) + sumR (rs.drop i) := by
    unfold sumR
    rw [← List.sum_append, ← List.map_append, List.take_append_drop]
  omega
theorem sumR_mem : ∀ {rs : List Rc} {r : Rc}, r ∈ rs → 20 + 16 * r.s.length ≤ sumR rs
  | a :: rs, r, h => by
    have e : sumR (a :: rs) = 20 + 16 * a.s.length + sumR rs := by simp [sumR]
    rcases List.mem_cons.1 h with rfl | h
    · omega
    · have := sumR_mem h
      omega
theorem sumR_len : ∀ (rs : List Rc), 20 * rs.length ≤ sumR rs
  | [] => by simp [sumR]
  | a :: rs => by
    have e : sumR (a :: rs) = 20 + 16 * a.s.length + sumR rs := by simp [sumR]
    have := sumR_len rs
    simp only [List.length_cons]
    omega
/-- a message that is great -/
def great (zs : List Int) (os : List (Int × List Int)) (az : List (List Int)) (rs : List Rc) : Bool := decide (6000 < zs.length + 16 * az.length + sumR rs) || decide (5000 < os.length + sumL os)

set_option maxHeartbeats 4000000 in
theorem greatM_any (m : Ms) (zs : List Int) (os : List (Int × List Int)) (az : List (List Int)) (rs : List Rc) (w : World) (h : MsIn w m zs os az rs) :
    Calls Tryd.prog 7 #[mv m] w fun e w' => e = .returned (.bool (great zs os az rs)) ∧ Below w.heap.size w w' := by
  have M := veil ((Lay.begin w).new (mc m) 35 rfl)
  have B := veil M.out.below
  have c3 := (msgAt M.out mem0 h.f).data
  have c41 := (msgAt M.out mem0 h.f).opts
  have c61 := (msgAt M.out mem0 h.f).srcs
  have c62 := (msgAt M.out mem0 h.f).recs
  obtain ⟨A3, k3, e3, _⟩ := h.data
  obtain ⟨A4, k4, e4, r4⟩ := h.opts
  obtain ⟨A5, k5, e5, _⟩ := h.srcs
  obtain ⟨A6, k6, e6, r6⟩ := h.recs
  rw [e3] at c3
  rw [e4] at c41
  rw [e5] at c61
  rw [e6] at c62
  have HR := veil (r6.keep B.out)
  have HO := veil (great_any A4 os.length k4 os _ rfl h.on (r4.keep B.out) h.ofin)
  have h1 := h.dn
  have h2 := h.sn
  have h3 := h.rn
  have HFR := veil h.rfin
  clear h e3 e4 e5 e6 r4 r6
  have HG : Hid (great zs os az rs = (decide (6000 < zs.length + 16 * az.length + sumR rs) || decide (5000 < os.length + sumL os))) := veil rfl
  generalize great zs os az rs = gz at *
  obtain ⟨nz, hnz⟩ : ∃ n, zs.length = n := ⟨_, rfl⟩
  obtain ⟨na, hna⟩ : ∃ n, az.length = n := ⟨_, rfl⟩
  obtain ⟨nr, hnr⟩ : ∃ n, rs.length = n := ⟨_, rfl⟩
  obtain ⟨n0, hn0⟩ : ∃ n, nz + 16 * na = n := ⟨_, rfl⟩
  rw [hnz] at c3 h1 HG
  rw [hna] at c61 h2 HG
  rw [hnr] at c62 h3
  rw [hn0] at HG
  have HNR := veil hnr
  have HN0 := veil hn0
  have i1 : (nz : Int) ≤ 140737488355328 := by omega
  have i2 : (na : Int) ≤ 8796093022208 := by omega
  have i3 : (nr : Int) ≤ 2932031007403 := by omega
  generalize decide (5000 < os.length + sumL os) = gb at *
  generalize os.length = no at *
  clear hnz hna hnr hn0 h1 h2
  go_enter Tryd.func7, Tryd.ntmps7
  go_wp2_with fail
  generalize w.alloc (.cells (mc m).toArray 35) = w1 at *
  go_loopw [3, 4] (fun s3 s4 wr => ∃ i : Nat, i ≤ nr ∧ s4 = .int .i64 i ∧ s3 = .int .i64 ((n0 + sumR (rs.take i) : Nat) : Int) ∧ Hid (w1 = wr) ∧ (n0 + sumR (rs.take i) : Nat) ≤ 300000000000000) (fun _ s4 _ => nr - (intOf s4).toNat)
  case atStart => exact ⟨0, Nat.zero_le _, rfl, by rw [← HN0.out]; simp only [List.take_zero, sumR, List.map_nil, List.sum_nil, Nat.add_zero]; go_num, veil rfl, by rw [← HN0.out]; simp [sumR]; omega⟩
  case round =>
    rename World => wr
    obtain ⟨i, hi, rfl, rfl, hw, hb⟩ := hrel
    obtain rfl : w1 = wr := hw.out
    clear hw
    obtain ⟨mm, hm⟩ : ∃ x, n0 + sumR (rs.take i) = x := ⟨_, rfl⟩
    rw [hm] at hb ⊢
    have HMM := veil hm
    by_cases hlt : i < nr ∧ mm < 9000
    · obtain ⟨hlt, h9⟩ := hlt
      have ij : (i : Int) < (nr : Int) := by omega
      have i9 : (mm : Int) < 9000 := by omega
      obtain ⟨r, hr⟩ : ∃ r, rs[i]? = some r := ⟨_, List.getElem?_eq_getElem (by rw [HNR.out]; exact hlt)⟩
      obtain ⟨a, rfl, X⟩ := HR.out i r hr
      obtain ⟨B1, kb, c2, _⟩ := X.srcs
      have hrn : (r.s.length : Int) ≤ 8796093022208 := by have := (HFR.out r (List.mem_of_getElem? hr)).n; omega
      have hs := sumR_next hr
      obtain ⟨x, hx⟩ : ∃ x, r.s.length = x := ⟨_, rfl⟩
      rw [hx] at c2 hrn hs
      have HS := veil (show n0 + sumR (rs.take (i + 1)) = mm + 20 + 16 * x by omega)
      clear X hr hs hm hx
      go_wp2_with fail
      go_roundw
      case rel => exact ⟨i + 1, by omega, by go_num, by rw [HS.out]; go_num, veil (by first | trivial | rfl), by rw [HS.out]; omega⟩
      case measure => simp [intOf]; omega
    · have hres : Hid (decide (6000 < n0 + sumR rs) = decide ((6000 : Int) < (mm : Int))) := veil (by
        have h1 := sumR_take rs i
        rw [decide_eq_decide]
        by_cases h : i < nr
        · have h9 : 9000 ≤ mm := by omega
          constructor <;> intro _ <;> omega
        · have : rs.take i = rs := List.take_of_length_le (by rw [HNR.out]; omega)
          rw [this] at hm
          omega)
      clear hm
      by_cases hin : i < nr
      · have ij : (i : Int) < (nr : Int) := by omega
        have i9 : ¬ (mm : Int) < 9000 := by omega
        have i6 : (6000 : Int) < (mm : Int) := by omega
        clear hlt hin
        go_wp2_with fail
        go_ret
        exact ⟨by rw [HG.out, hres.out]; simp [i6], B.out⟩
      · have ij : ¬ (i : Int) < (nr : Int) := by omega
        clear hlt hin
        by_cases h6 : (6000 : Int) < (mm : Int)
        · go_wp2_with fail
          go_ret
          exact ⟨by rw [HG.out, hres.out]; simp [h6], B.out⟩
        · go_wp2_with fail
          refine (HO.out).mono ?_
          rintro e w3 ⟨rfl, rfl⟩
          go_wp2_with fail
          go_ret
          exact ⟨by rw [HG.out, hres.out, show decide ((6000 : Int) < (mm : Int)) = false from decide_eq_false (by omega)]; simp, B.out⟩

end Go.Proofs.YthkiamkhignchaaDoor.Mg
