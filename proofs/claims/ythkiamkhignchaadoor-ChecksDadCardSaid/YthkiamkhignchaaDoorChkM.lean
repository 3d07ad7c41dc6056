/-
  Variables made and filled, one single step each, beside the table and blocks that are known whole; packets and messages as literals make them; lists of options as a literal makes them.
  Conditions: none.
-/
import Derived.Test.YthkiamkhignchaaDoorChkC
import Derived.Test.YthkiamkhignchaaDoorAdrQ
namespace Go.Proofs.YthkiamkhignchaaDoor.Ck
set_option maxRecDepth 100000
open Go.RowKit Ops Hd Oz Mg
open Ad (Knw kn kn_len kn_ok Ok mult ll sol sol_ok)

section
variable {w0 w w' : World} {L : List Blk} {g o i : Nat} {t ty : TypeId} {cs vs cs' : List Value} {u : Value} {P : Program}
/-- a value of one cell goes into a block -/
theorem store_single (h : Row w g t cs.toArray) (ho : o < cs.length) (hi : (P.info? ty).map (·.size) = some 1) (h1 : u.oneCell' = true) (hc : u.cells = #[u]) :
    (Instr.storeAt ty (.pointer (some ⟨g, o, none⟩)) u).run P w = .ok () (w.setRow g (cs.set o u).toArray) := by
  have hs := run_storeCells_at P g o t [u] 0 cs.toArray w h (by simp; omega) (by intro v hv; simp at hv; subst hv; exact h1)
  cases hq : P.info? ty with
  | none => simp [hq] at hi
  | some i =>
    have hz : i.size = 1 := by simpa [hq] using hi
    simp only [Instr.storeAt, Instr.sureAddr, Sem.run_bind, Sem.run_pure, Result.andThen_ok]
    simp [storeVar, sizeOf, typeInfo, hq, hc, hz]
    have e : cs.take o ++ u :: cs.drop (o + 1) = cs.set o u := by rw [List.set_eq_take_append_cons_drop, if_pos ho]
    simpa [e] using hs
theorem Kw.fresh (h : Kw w0 w L) (Z : Array Value) (t : TypeId) (cs : List Value) (hz : Z.size = cs.length) (hi : (P.info? t).map (·.size) = some cs.length) (h1 : ∀ v ∈ cs, v.oneCell' = true) :
    ∃ w', (Instr.storeAt t (.pointer (some ⟨w.heap.size, 0, none⟩)) (.agg cs.toArray)).run P (w.alloc (.cells Z t)) = .ok () w' ∧ Kw w0 w' ((w.heap.size, t, cs) :: L) := by
  have Y := h.lay.newA Z t (g := w.heap.size) rfl
  refine ⟨_, store_all (Y.at mem0) (by simpa using hz.symm) hi h1, h.k0, ?_⟩
  have := Y.put 0 rfl cs
  simpa using this
theorem Kw.part (h : Kw w0 w L) (i : Nat) (hi : L[i]? = some (g, t, cs)) (o : Nat) (vs : List Value) (ty : TypeId) (ho : o + vs.length ≤ cs.length) (hs : (P.info? ty).map (·.size) = some vs.length) (h1 : ∀ v ∈ vs, v.oneCell' = true) (he : cs.take o ++ vs ++ cs.drop (o + vs.length) = cs') :
    ∃ w', (Instr.storeAt ty (.pointer (some ⟨g, o, none⟩)) (.agg vs.toArray)).run P w = .ok () w' ∧ Kw w0 w' (L.set i (g, t, cs')) := by
  subst he
  exact ⟨_, store_part (h.lay.row _ (List.mem_of_getElem? hi)) ho hs h1, h.put i hi _⟩
theorem Kw.single (h : Kw w0 w L) (i : Nat) (hi : L[i]? = some (g, t, cs)) (o : Nat) (u : Value) (ty : TypeId) (ho : o < cs.length) (hs : (P.info? ty).map (·.size) = some 1) (h1 : u.oneCell' = true) (hc : u.cells = #[u]) (he : cs.set o u = cs') :
    ∃ w', (Instr.storeAt ty (.pointer (some ⟨g, o, none⟩)) u).run P w = .ok () w' ∧ Kw w0 w' (L.set i (g, t, cs')) := by
  subst he
  exact ⟨_, store_single (h.lay.row _ (List.mem_of_getElem? hi)) ho hs h1 hc, h.put i hi _⟩
end
theorem size_u8 : (Tryd.prog.info? 5).map (·.size) = some 1 := by kernel_rfl
theorem size_bool : (Tryd.prog.info? 4).map (·.size) = some 1 := by kernel_rfl
theorem size_opts : (Tryd.prog.info? 31).map (·.size) = some 1 := by kernel_rfl
theorem size_bytes : (Tryd.prog.info? 28).map (·.size) = some 1 := by kernel_rfl

/-- a variable for a message, as it is made -/
def zm : Array Value := #[.int .u8 0, .int .u8 0, .int .u32 0, .slice none 0 0, .int .u8 0, .int .u8 0, .int .u16 0, .int .u32 0, .int .u32 0, .int .u8 0, .int .u8 0, .int .u8 0, .int .u8 0, .int .u8 0, .int .u8 0, .int .u8 0, .int .u8 0, .int .u8 0, .int .u8 0, .int .u8 0, .int .u8 0, .int .u8 0, .int .u8 0, .int .u8 0, .int .u8 0, .int .u8 0, .int .u8 0, .int .u8 0, .int .u8 0, .int .u8 0, .int .u8 0, .int .u8 0, .int .u8 0, .int .u8 0, .int .u8 0, .int .u8 0, .int .u8 0, .int .u8 0, .int .u8 0, .int .u8 0, .int .u8 0, .slice none 0 0, .int .u16 0, .int .u8 0, .int .u8 0, .int .u8 0, .int .u8 0, .int .u8 0, .int .u8 0, .int .u8 0, .int .u8 0, .int .u8 0, .int .u8 0, .int .u8 0, .int .u8 0, .int .u8 0, .int .u8 0, .int .u8 0, .int .u8 0, .int .u8 0, .int .u8 0, .slice none 0 0, .slice none 0 0]
theorem zm_mc : zm = (mc {}).toArray := rfl
theorem zm_size : zm.size = 63 := rfl
theorem zp_size : zp.size = 40 := rfl

/-- four kinds of literals -/
theorem made_dst_lit (a0 a1 a2 a3 a4 a5 a6 a7 a8 a9 a10 a11 a12 a13 a14 a15 x : Int) (w : World) : (Instr.build 30 #[(1, av [a0, a1, a2, a3, a4, a5, a6, a7, a8, a9, a10, a11, a12, a13, a14, a15]), (2, .int .u8 x)]).run Tryd.prog w = .ok (pv { s := z16, d := [a0, a1, a2, a3, a4, a5, a6, a7, a8, a9, a10, a11, a12, a13, a14, a15], hops := x } (.slice none 0 0)) w := by kernel_rfl
theorem made_dst {d : List Int} (h : d.length = 16) (x : Int) (w : World) : (Instr.build 30 #[(1, av d), (2, .int .u8 x)]).run Tryd.prog w = .ok (pv { s := z16, d := d, hops := x } (.slice none 0 0)) w := by
  match d, h with
  | [a0, a1, a2, a3, a4, a5, a6, a7, a8, a9, a10, a11, a12, a13, a14, a15], _ => exact made_dst_lit a0 a1 a2 a3 a4 a5 a6 a7 a8 a9 a10 a11 a12 a13 a14 a15 x w
theorem made_src_lit (a0 a1 a2 a3 a4 a5 a6 a7 a8 a9 a10 a11 a12 a13 a14 a15 x : Int) (w : World) : (Instr.build 30 #[(0, av [a0, a1, a2, a3, a4, a5, a6, a7, a8, a9, a10, a11, a12, a13, a14, a15]), (2, .int .u8 x)]).run Tryd.prog w = .ok (pv { s := [a0, a1, a2, a3, a4, a5, a6, a7, a8, a9, a10, a11, a12, a13, a14, a15], d := z16, hops := x } (.slice none 0 0)) w := by kernel_rfl
theorem made_src {d : List Int} (h : d.length = 16) (x : Int) (w : World) : (Instr.build 30 #[(0, av d), (2, .int .u8 x)]).run Tryd.prog w = .ok (pv { s := d, d := z16, hops := x } (.slice none 0 0)) w := by
  match d, h with
  | [a0, a1, a2, a3, a4, a5, a6, a7, a8, a9, a10, a11, a12, a13, a14, a15], _ => exact made_src_lit a0 a1 a2 a3 a4 a5 a6 a7 a8 a9 a10 a11 a12 a13 a14 a15 x w
theorem made_kind (x : Int) (w : World) : (Instr.build 35 #[(0, .int .u8 x)]).run Tryd.prog w = .ok (mv { kind := x }) w := by kernel_rfl
theorem made_target_lit (a0 a1 a2 a3 a4 a5 a6 a7 a8 a9 a10 a11 a12 a13 a14 a15 x : Int) (w : World) : (Instr.build 35 #[(0, .int .u8 x), (9, av [a0, a1, a2, a3, a4, a5, a6, a7, a8, a9, a10, a11, a12, a13, a14, a15])]).run Tryd.prog w = .ok (mv { kind := x, t := [a0, a1, a2, a3, a4, a5, a6, a7, a8, a9, a10, a11, a12, a13, a14, a15] }) w := by kernel_rfl
theorem made_target {d : List Int} (h : d.length = 16) (x : Int) (w : World) : (Instr.build 35 #[(0, .int .u8 x), (9, av d)]).run Tryd.prog w = .ok (mv { kind := x, t := d }) w := by
  match d, h with
  | [a0, a1, a2, a3, a4, a5, a6, a7, a8, a9, a10, a11, a12, a13, a14, a15], _ => exact made_target_lit a0 a1 a2 a3 a4 a5 a6 a7 a8 a9 a10 a11 a12 a13 a14 a15 x w
theorem made_opt (x : Int) (w : World) : (Instr.build 46 #[(0, .int .u8 x)]).run Tryd.prog w = .ok (ov ⟨x, none, 0, 0⟩) w := by kernel_rfl
theorem made_one (x : Int) (w : World) : (Instr.buildSlice 31 1 #[(0, ov ⟨x, none, 0, 0⟩)]).run Tryd.prog w = .ok (.slice (some ⟨w.heap.size, 0, none⟩) 1 1) (w.alloc (.cells (cv [⟨x, none, 0, 0⟩]).toArray 46)) := by kernel_rfl
theorem made_two (x y : Int) (w : World) : (Instr.buildSlice 31 2 #[(0, ov ⟨x, none, 0, 0⟩), (1, ov ⟨y, none, 0, 0⟩)]).run Tryd.prog w = .ok (.slice (some ⟨w.heap.size, 0, none⟩) 2 2) (w.alloc (.cells (cv [⟨x, none, 0, 0⟩, ⟨y, none, 0, 0⟩]).toArray 46)) := by kernel_rfl

/-- options without bytes in a block of their own -/
theorem reads_bare {w0 w : World} {L : List Blk} {g : Nat} {t : TypeId} {ks : List Int} (h : Lay w0 w L) (hm : (g, t, cv (ks.map fun x => ⟨x, none, 0, 0⟩)) ∈ L) : Reads w (some ⟨g, 0, none⟩) (ks.map fun x => (x, [])) := fun i o ho => by
  rw [List.getElem?_map] at ho
  obtain ⟨x, hx, rfl⟩ := Option.map_eq_some_iff.1 ho
  obtain ⟨h1, h2⟩ := cv_at (l := ks.map fun x => (⟨x, none, 0, 0⟩ : El)) (i := i) (x := ⟨x, none, 0, 0⟩) (by rw [List.getElem?_map, hx]; rfl)
  have ea : (⟨g, 0, none⟩ : Addr).add (i * 2) = ⟨g, i * 2, none⟩ := by
    unfold Addr.add
    split
    · rename_i e
      rw [e]
    · simp
  exact ⟨_, ⟨x, none, 0, 0⟩, rfl, ⟨by rw [ea]; exact h.look hm h1, by rw [ea]; exact h.look hm h2⟩, rfl, .inl ⟨rfl, rfl⟩⟩
theorem op1_bare {w0 w : World} {L : List Blk} {g n : Nat} {t : TypeId} {ks : List Int} (h : Lay w0 w L) (hm : (g, t, cv (ks.map fun x => ⟨x, none, 0, 0⟩)) ∈ L) (hn : ks.length = n) (h64 : n ≤ 64) : Op1 w (.slice (some ⟨g, 0, none⟩) n n) (ks.map fun x => (x, [])) :=
  ⟨⟨_, n, by rw [List.length_map, hn], reads_bare h hm⟩, by rw [List.length_map, hn]; omega⟩

/-- a packet's or a message's parts written anew -/
theorem pc_puts {k : Pk} {v : Value} {xs : List Int} (h : k.s.length = 16) (hx : xs.length = 16) : (pc k v).take 0 ++ bv xs ++ (pc k v).drop (0 + (bv xs).length) = pc { k with s := xs } v := by
  unfold pc
  rw [List.take_zero, List.nil_append, List.drop_append_of_le_length (by simp [bv_length, h, hx]), List.drop_of_length_le (by simp [bv_length, h, hx]), List.nil_append]
theorem pc_putd {k : Pk} {v : Value} {xs : List Int} (h : Hd.Ends k) (hx : xs.length = 16) : (pc k v).take 16 ++ bv xs ++ (pc k v).drop (16 + (bv xs).length) = pc { k with d := xs } v := by
  unfold pc
  have e : (bv k.s).length = 16 := by rw [bv_length, h.s]
  have e2 : (bv k.d).length = 16 := by rw [bv_length, h.d]
  rw [List.take_left' e, bv_length, hx, ← List.drop_drop, List.drop_left' e, List.drop_left' e2, List.append_assoc]
theorem mc_opts {m : Ms} (h : Fine3 m) (u : Value) : (mc m).set 41 u = mc { m with opts := u } := by
  unfold mc
  rw [List.set_append_right _ _ (by simp), List.set_append_right _ _ (by simp [bv_length, h.t]), List.set_append_right _ _ (by simp [bv_length, h.t, h.d])]
  simp [bv_length, h.t, h.d]

theorem z16_ok : Ok z16 := ⟨rfl, by unfold Byt z16; decide⟩
theorem gd_of {k : Pk} {m : Ms} (hs : Ok k.s) (hd : Ok k.d) (ht : Ok m.t) (he : Ok m.d) (hf : Fine3 m) (hl : 0 ≤ m.flags ∧ m.flags ≤ 255) (hk : 0 ≤ m.kind ∧ m.kind ≤ 255) : Gd k m := ⟨hs, hd, ht, he, hf, hl, hk⟩

end Go.Proofs.YthkiamkhignchaaDoor.Ck
