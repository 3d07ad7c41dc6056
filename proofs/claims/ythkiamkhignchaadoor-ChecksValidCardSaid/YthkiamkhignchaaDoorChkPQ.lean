/-
  Texts put together (ChkP, ChkQ).
  Conditions: as each part says.
-/
import Derived.Test.YthkiamkhignchaaDoorChkL
import Derived.Test.YthkiamkhignchaaDoorChkAll
import Derived.Test.YthkiamkhignchaaDoorOpoB
/-
  Parts of packets and messages written anew; messages kept; what is plain counts.
  Conditions: none.
-/
namespace Go.Proofs.YthkiamkhignchaaDoor.Ck
set_option maxRecDepth 100000
open Go.RowKit Ops Hd Mg
open Oz (Reads ReadsA Fine)
open Ad (Knw kn kn_len kn_ok Ok mult ll sol sol_ok)

section
variable {k : Pk} {v : Value} {m : Ms}
theorem pc_tail8 (k : Pk) (v : Value) : pc k v = (bv k.s ++ bv k.d) ++ [.int .u8 k.hops, .bool k.alert, .bool k.frag.is, .int .u32 k.frag.id, .int .u16 k.frag.off, .bool k.frag.more, .int .u8 k.next, v] := by simp [pc, fgc]
theorem pc_front (h : Hd.Ends k) : (bv k.s ++ bv k.d).length = 32 := by simp [bv_length, h.s, h.d]
theorem pc_seth (h : Hd.Ends k) (x : Int) : (pc k v).set 32 (.int .u8 x) = pc { k with hops := x } v := by
  rw [pc_tail8, List.set_append_right _ _ (by rw [pc_front h]; omega), pc_front h, pc_tail8]
  rfl
theorem pc_seta (h : Hd.Ends k) (x : Bool) : (pc k v).set 33 (.bool x) = pc { k with alert := x } v := by
  rw [pc_tail8, List.set_append_right _ _ (by rw [pc_front h]; omega), pc_front h, pc_tail8]
  rfl
theorem pc_setn (h : Hd.Ends k) (x : Int) : (pc k v).set 38 (.int .u8 x) = pc { k with next := x } v := by
  rw [pc_tail8, List.set_append_right _ _ (by rw [pc_front h]; omega), pc_front h, pc_tail8]
  rfl
theorem pc_setv (h : Hd.Ends k) (u : Value) : (pc k v).set 39 u = pc k u := by
  rw [pc_tail8, List.set_append_right _ _ (by rw [pc_front h]; omega), pc_front h, pc_tail8]
  rfl
theorem pc_putf (h : Hd.Ends k) (f : Fg) : (pc k v).take 34 ++ fgc f ++ (pc k v).drop (34 + (fgc f).length) = pc { k with frag := f } v := by
  have e : (bv k.s ++ bv k.d ++ [Value.int .u8 k.hops, Value.bool k.alert]).length = 34 := by rw [List.length_append, pc_front h]; rfl
  have e2 : pc k v = (bv k.s ++ bv k.d ++ [.int .u8 k.hops, .bool k.alert]) ++ (fgc k.frag ++ [.int .u8 k.next, v]) := by simp [pc]
  have e3 : pc { k with frag := f } v = (bv k.s ++ bv k.d ++ [.int .u8 k.hops, .bool k.alert]) ++ (fgc f ++ [.int .u8 k.next, v]) := by simp [pc]
  rw [e2, e3, List.take_left' e, ← List.drop_drop, List.drop_left' e, show (fgc f).length = (fgc k.frag).length from rfl, List.drop_left, List.append_assoc]
theorem mc_code (x : Int) : (mc m).set 1 (.int .u8 x) = mc { m with code := x } := rfl
theorem mc_flags (x : Int) : (mc m).set 5 (.int .u8 x) = mc { m with flags := x } := rfl
theorem mc_putt {xs : List Int} (h : m.t.length = 16) (hx : xs.length = 16) : (mc m).take 9 ++ bv xs ++ (mc m).drop (9 + (bv xs).length) = mc { m with t := xs } := by
  have e : ([.int .u8 m.kind, .int .u8 m.code, .int .u32 m.param, m.data, .int .u8 m.hops, .int .u8 m.flags, .int .u16 m.life, .int .u32 m.reach, .int .u32 m.retr] : List Value).length = 9 := rfl
  unfold mc
  rw [List.take_left' e, ← List.drop_drop, List.drop_left' e, bv_length, hx, List.drop_left' (by rw [bv_length, h]), List.append_assoc]
theorem mc_putd {xs : List Int} (h : m.t.length = 16) (h2 : m.d.length = 16) (hx : xs.length = 16) : (mc m).take 25 ++ bv xs ++ (mc m).drop (25 + (bv xs).length) = mc { m with d := xs } := by
  have e : ([.int .u8 m.kind, .int .u8 m.code, .int .u32 m.param, m.data, .int .u8 m.hops, .int .u8 m.flags, .int .u16 m.life, .int .u32 m.reach, .int .u32 m.retr] ++ bv m.t : List Value).length = 25 := by simp [bv_length, h]
  unfold mc
  rw [← List.append_assoc, List.take_left' e, ← List.drop_drop, List.drop_left' e, bv_length, hx, List.drop_left' (by rw [bv_length, h2])]
  simp only [List.append_assoc]
end

theorem MsIn.keep {w w' : World} {m : Ms} {zs : List Int} {os : List (Int × List Int)} {az : List (List Int)} {rs : List Rc} (h : MsIn w m zs os az rs) (q : Below w.heap.size w w') : MsIn w' m zs os az rs := by
  obtain ⟨A, c, e1, s1⟩ := h.data
  obtain ⟨B, d, e2, s2⟩ := h.opts
  obtain ⟨C, e, e3, s3⟩ := h.srcs
  obtain ⟨D, f, e4, s4⟩ := h.recs
  exact { h with data := ⟨A, c, e1, s1.keep q⟩, opts := ⟨B, d, e2, s2.keep q⟩, srcs := ⟨C, e, e3, s3.keep q⟩, recs := ⟨D, f, e4, s4.keep q⟩ }
theorem op1_of {w : World} {m : Ms} {zs : List Int} {os : List (Int × List Int)} {az : List (List Int)} {rs : List Rc} (h : MsIn w m zs os az rs) : Op1 w m.opts os := ⟨h.opts, h.on⟩
theorem gd_in {w : World} {k : Pk} {A : Option Addr} {n c : Nat} {ys : List Int} {m : Ms} {zs : List Int} {os : List (Int × List Int)} {az : List (List Int)} {rs : List Rc} (F : FitsP w k A n c ys) (h : MsIn w m zs os az rs) : Gd k m :=
  ⟨⟨F.m.s, F.bs⟩, ⟨F.m.d, F.bd⟩, ⟨h.f.t, h.t⟩, ⟨h.f.d, h.d⟩, h.f, h.flags, h.kind⟩

def a2 : List Int := [254, 128, 0, 0, 0, 0, 0, 0, 0, 0, 0, 0, 0, 0, 0, 2]
theorem a2_ok : Ok a2 := ⟨rfl, by unfold Byt a2; decide⟩
theorem a2_made (w : World) : (Instr.build 23 #[(0, .int .u8 254), (1, .int .u8 128), (15, .int .u8 2)]).run Tryd.prog w = .ok (av a2) w := by unfold a2; kernel_rfl
def a3 : List Int := [32, 0, 0, 0, 0, 0, 0, 0, 0, 0, 0, 0, 0, 0, 0, 3]
theorem a3_ok : Ok a3 := ⟨rfl, by unfold Byt a3; decide⟩
theorem a3_made (w : World) : (Instr.build 23 #[(0, .int .u8 32), (15, .int .u8 3)]).run Tryd.prog w = .ok (av a3) w := by unfold a3; kernel_rfl

theorem own_lis {x : Int} (h : lis x = true) : own x = 1 := by unfold own; rw [h]; rfl
theorem own_not {x : Int} (h : lis x = false) : own x = 255 := by unfold own; rw [h]; rfl
/-- other hops, or a code: it doesn't count -/
theorem far_false {k : Pk} {m : Ms} {os : List (Int × List Int)} (h : kno m.kind = true) (x y : Int) (hb : ¬ x = own m.kind ∨ ¬ y = 0) : valid { k with hops := x } { m with code := y } os = false := by
  cases hv : valid { k with hops := x } { m with code := y } os with
  | false => rfl
  | true =>
    obtain ⟨e1, e2, _⟩ := kno_some (k := { k with hops := x }) (m := { m with code := y }) (os := os) h hv
    simp only at e1 e2
    rcases hb with hb | hb
    · exact absurd e1 hb
    · exact absurd e2 hb
/-- what is plain counts -/
theorem plain_true {k : Pk} {m : Ms} {os : List (Int × List Int)} (h : kno m.kind = true) (x : Int) (hx : x = own m.kind) : valid { k with s := a1, hops := x, alert := true } { m with code := 0, t := a2, d := a3, flags := 0 } os = true := by
  have l1 : ll a1 = true := by decide +kernel
  have n1 : nob a1 = false := by decide +kernel
  have m2 : mult a2 = false := by decide +kernel
  have l2 : ll a2 = true := by decide +kernel
  have m3 : mult a3 = false := by decide +kernel
  have key : ∀ (y : Int) (z : Bool), asked { k with s := a1, hops := x, alert := true } { m with code := 0, t := a2, d := a3, flags := 0 } os = some (y, z) → x = y → z = true → valid { k with s := a1, hops := x, alert := true } { m with code := 0, t := a2, d := a3, flags := 0 } os = true := fun y z e hy hz => by
    rw [valid_of e, hz]
    simp [hy]
  rcases kinds_of m with e | e | e | e | e | e | e | e
  · exact key 1 _ (asked_130 e) (by rw [hx, e]; rfl) (by simp only [l1]; rfl)
  · exact key 255 _ (asked_133 e) (by rw [hx, e]; rfl) (by unfold hides; simp only [n1]; rfl)
  · exact key 255 _ (asked_134 e) (by rw [hx, e]; rfl) l1
  · exact key 255 _ (asked_135 e) (by rw [hx, e]; rfl) (by unfold asks hides; simp only [n1, m2]; rfl)
  · exact key 255 _ (asked_136 e) (by rw [hx, e]; rfl) (by unfold tells; simp [m2])
  · exact key 255 _ (asked_137 e) (by rw [hx, e]; rfl) (by unfold leads; simp only [l1, l2, m3]; rfl)
  · exact key 1 _ (asked_143 e) (by rw [hx, e]; rfl) (by simp only [l1]; rfl)
  · unfold kno lis at h
    simp only [Bool.or_eq_true, beq_iff_eq, Bool.and_eq_true, decide_eq_true_eq] at h
    omega

end Go.Proofs.YthkiamkhignchaaDoor.Ck

/-
  A list of options that grows beside blocks that are known whole, stored in one of them; what of a message makes no difference.
  Conditions: none.
-/
namespace Go.Proofs.YthkiamkhignchaaDoor.Ck
set_option maxRecDepth 100000
open Go.RowKit Ops Hd Oz Mg
open Ad (Knw kn kn_len kn_ok Ok mult ll sol sol_ok)

theorem gb_put (w : World) (g : Nat) (cs : Array Value) : w.grownBy (w.setRow g cs) (some g) := ⟨rfl, rfl, rfl, by simp [World.setRow], fun k hk hne => by
  unfold World.setRow
  rw [Array.getElem?_modify, if_neg (fun e => hne (by rw [e]))]⟩
section
variable {w0 w : World} {L : List Blk} {base g o : Nat} {v u : Value} {l : List El} {t ty : TypeId} {cs cs' : List Value} {P : Program}
theorem many_put {i : Nat} (h : Many w0 w L base v l) (hi : L[i]? = some (g, t, cs)) (cs' : List Value) : Many w0 (w.setRow g cs'.toArray) (L.set i (g, t, cs')) base v l := by
  have hg : g < base := h.fore _ (List.mem_of_getElem? hi)
  refine ⟨h.lay.put i hi cs', World.ownsRow.kept h.own (gb_put w g _) (.inr ?_), h.lo, by simpa [World.setRow] using h.hi, fun x hx => ?_⟩
  · intro e
    have := (World.ownsRow.lt h.own g e).1
    omega
  · rcases List.mem_or_eq_of_mem_set hx with hx | rfl
    · exact h.fore x hx
    · exact hg
theorem many_single (h : Many w0 w L base v l) (i : Nat) (hi : L[i]? = some (g, t, cs)) (o : Nat) (u : Value) (ty : TypeId) (ho : o < cs.length) (hs : (P.info? ty).map (·.size) = some 1) (h1 : u.oneCell' = true) (hc : u.cells = #[u]) (he : cs.set o u = cs') :
    ∃ w', (Instr.storeAt ty (.pointer (some ⟨g, o, none⟩)) u).run P w = .ok () w' ∧ Many w0 w' (L.set i (g, t, cs')) base v l := by
  subst he
  exact ⟨_, store_single (h.lay.row _ (List.mem_of_getElem? hi)) ho hs h1 hc, many_put h hi _⟩
end
theorem made_el (x : El) (w : World) : (Instr.buildSlice 31 1 #[(0, ov x)]).run Tryd.prog w = .ok (.slice (some ⟨w.heap.size, 0, none⟩) 1 1) (w.alloc (.cells (tv x).toArray 46)) := by
  obtain ⟨k, A, n, c⟩ := x
  kernel_rfl
theorem sizeOpt (x : El) : (Tryd.prog.info? 46).map (·.size) = some (tv x).length := by kernel_rfl

/-- one literal of a slice as one step of a region that draws -/
theorem wp_slice_of {P : Program} {o : Oper} {a : Act} {w w' : World} {K : Act → World → Prop} {Q : Exit → Act → World → Prop} {v : Value} (t : TypeId) (n : Nat) (ps : Array (Nat × Operand)) (ho : o.op = .buildSlice t n ps) (vs : Array (Nat × Value))
    (hx : ps.map (fun p => (p.1, a.eval p.2)) = vs) (hrun : (Instr.buildSlice t n vs).run P w = .ok v w') (h : K (a.put o.dst v) w') : Oper.wp P o a w K Q := by
  subst hx
  unfold Oper.wp execOp
  simp only [ho, hrun, Sem.run_bind, Sem.run_pure, Result.andThen_ok]
  simpa [Oper.upon] using h

/-- the same kinds, each with the same bytes -/
def ol (B : Option Addr) (nb cb : Nat) (os : List (Int × List Int)) : List El := os.map fun o => ⟨o.1, B, nb, cb⟩
def od (dz : List Int) (os : List (Int × List Int)) : List (Int × List Int) := os.map fun o => (o.1, dz)
theorem ol_len (B : Option Addr) (nb cb : Nat) (os : List (Int × List Int)) : (ol B nb cb os).length = os.length := by simp [ol]
theorem ol_next {B : Option Addr} {nb cb : Nat} {os : List (Int × List Int)} {i : Nat} {o : Int × List Int} (h : os[i]? = some o) : ol B nb cb (os.take (i + 1)) = ol B nb cb (os.take i) ++ [⟨o.1, B, nb, cb⟩] := by
  rw [List.take_add_one, h]
  simp [ol]
theorem one_od (dz : List Int) (os : List (Int × List Int)) : one (od dz os) = one os := by
  unfold one od
  rw [List.any_map]
  rfl
theorem one_more (os : List (Int × List Int)) (k : Int) (dz : List Int) (h : ¬ k = 1) : one (os ++ [(k, dz)]) = one os := by
  unfold one
  rw [List.any_append]
  simp [h]
theorem reads_many {w0 w : World} {L : List Blk} {base : Nat} {A : Option Addr} {n c nb cb : Nat} {B : Option Addr} {dz : List Int} {os : List (Int × List Int)} (h : Many w0 w L base (.slice A n c) (ol B nb cb os)) (hd : Slc w (.slice B nb cb) dz) : Reads w A (od dz os) :=
  h.inRow.reads (by simp [ol, od]) (fun i x o hx ho => by
    unfold ol at hx
    unfold od at ho
    rw [List.getElem?_map] at hx ho
    cases hq : os[i]? with
    | none => rw [hq] at hx; cases hx
    | some q =>
      rw [hq] at hx ho
      obtain rfl : (⟨q.1, B, nb, cb⟩ : El) = x := Option.some.inj hx
      obtain rfl : (q.1, dz) = o := Option.some.inj ho
      exact ⟨rfl, hd⟩)
theorem op1_many {w0 w : World} {L : List Blk} {base nb cb : Nat} {v : Value} {B : Option Addr} {dz : List Int} {os : List (Int × List Int)} (h : Many w0 w L base v (ol B nb cb os)) (hd : Slc w (.slice B nb cb) dz) (hn : os.length ≤ 10000) : Op1 w v (od dz os) := by
  obtain ⟨A, c, rfl, _⟩ := h.slice
  have e : (ol B nb cb os).length = (od dz os).length := by simp [ol, od]
  exact ⟨⟨A, c, by rw [e], reads_many h hd⟩, by simp [od]; omega⟩
/-- other options that are not of the kind 1, other bytes, another end: no difference -/
theorem valid_same {k : Pk} {m : Ms} {os os2 : List (Int × List Int)} (h : one os2 = one os) (nx : Int) (f : Fg) (v : Value) : valid { k with next := nx, frag := f } { m with opts := v } os2 = valid k m os := by
  unfold valid asked asks hides tells leads
  simp only [h]

end Go.Proofs.YthkiamkhignchaaDoor.Ck
