/-
  A book of lists of bytes: a list more is noted; lists that share no cell, their room too, are told apart.
  Conditions: the book and its notes lie in blocks of their own; at most 100000 lists are asked of.
-/
import Derived.Test.YtdebifkefpclaaaDoorBookA
namespace Go.Proofs.YtdebifkefpclaaaDoor
open Go.RowKit

/-- a list of bytes, as it is noted: where, how long, with how much room, and its two signs -/
structure Leaf where
  A : Option Addr
  n : Nat
  c : Nat
  x : Int
  y : Int
def leafV (L : Leaf) : Value := .iface 92 (.agg #[.slice L.A L.n L.c, .int .u8 L.x, .int .u8 L.y])
def BookAt (w : World) (base k : Nat) (Ls : List Leaf) : Prop :=
  base ≤ k ∧ ∃ v, Row w k 37 #[v] ∧ w.ownsRow base 94 1 v Ls.length (Ls.map leafV)
/-- what noting leaves alone -/
def BF (base : Nat) (w w' : World) : Prop := Below base w w' ∧ ∀ g t cs, Row w g t cs → t ≠ 37 → t ≠ 94 → Row w' g t cs

theorem info_leaf : (Tryd.prog.info? 94).map (fun i => (i.zero, i.size, i.bytes)) = some (some .nilIface, 1, 16) := by kernel_rfl
theorem own_slice {w : World} {base : Nat} {e : TypeId} {v : Value} {n : Nat} {xs : List Value} (h : w.ownsRow base e 1 v n xs) : ∃ A c, v = .slice A n c ∧ n ≤ c := by
  rcases h.2 with ⟨rfl, rfl⟩ | ⟨g, cap, cur, rfl, _, _, hc, _⟩
  · exact ⟨none, 0, rfl, Nat.le_refl _⟩
  · exact ⟨_, cap, rfl, hc⟩
theorem own_ne {w : World} {base : Nat} {e t : TypeId} {v : Value} {n k : Nat} {xs : List Value} {cs : Array Value} (h : w.ownsRow base e 1 v n xs) (hr : Row w k t cs) (hne : e ≠ t) : some k ≠ v.ownBlock := by
  rcases h.2 with ⟨rfl, _⟩ | ⟨g, cap, cur, rfl, _, hg, _⟩
  · simp [Value.ownBlock]
  · intro e'
    have : k = g := by simpa [Value.ownBlock] using e'
    subst this
    unfold Row at hr
    rw [hr] at hg
    injection hg with hg
    injection hg with _ ht
    exact hne ht.symm

theorem next_any (w : World) (base k : Nat) (Ls : List Leaf) (h : BookAt w base k Ls) (hn : Ls.length ≤ 1000000) :
    Calls Tryd.prog 61 #[.pointer (some ⟨k, 0, none⟩)] w fun e w' => e = .returned (.int .i64 (1 + (Ls.length : Int))) ∧ w = w' := by
  obtain ⟨_, v, hr, ho⟩ := h
  obtain ⟨A, c, rfl, _⟩ := own_slice ho
  have h0 : w.cell? ⟨k, 0, none⟩ = some (.slice A Ls.length c) := hr.cell 0
  generalize Ls.length = n at hn h0
  clear hr ho
  go_enter Tryd.func61, Tryd.ntmps61
  go_wp2_with fail
  go_ret
  exact ⟨rfl, rfl⟩

/-- append of one leaf that lies in a block that was made just now -/
theorem wpList_note {ops : Array Oper} {rest : List Oper} {o : Oper} {a : Act} {Q : Exit → Act → World → Prop} (hgd : o.guard = none) (s x : Operand)
    (hop : o.op = .call { callee := .builtin .append, args := #[s, x], argTypes := #[35, 35] }) (w : World) (base : Nat) (v X : Value) (m : Nat) (xs : List Value)
    (hs : a.eval s = v) (hx : a.eval x = .slice (some ⟨w.heap.size, 0, none⟩) 1 1) (hX : X.oneCell' = true) (hown : w.ownsRow base 94 1 v m xs) (hm : m ≤ 100000) (hB : base ≤ w.heap.size)
    (h : ∀ v' w', w'.ownsRow base 94 1 v' (m + 1) (xs ++ [X]) → (w.alloc (.cells #[X] 94)).grownBy w' v.ownBlock → wpList Tryd.prog ops Q rest (a.put o.dst v') w') :
    wpList Tryd.prog ops Q (o :: rest) a (w.alloc (.cells #[X] 94)) := by
  obtain ⟨i, hi, hz0, hz1, hz2⟩ := info_parts info_leaf
  have hr : Row (w.alloc (.cells #[X] 94)) w.heap.size 94 #[X] := row_new rfl
  obtain ⟨v', w', hrun, h2, h3, _, _⟩ := run_append_own_at (P := Tryd.prog) (w.alloc (.cells #[X] 94)) base 35 o.type 94 i .nilIface 1 16 Tryd.underlying35 hi hz0 hz1 hz2 rfl (by omega) v m xs (hown.alloc _)
    ⟨w.heap.size, 0, none⟩ 1 1 [X] rfl (fun j u hj => by
      have hj0 : j = 0 := by have := (List.getElem?_eq_some_iff.1 hj).1; simp at this; exact this
      subst hj0
      rw [show (⟨w.heap.size, 0, none⟩ : Addr).add 0 = ⟨w.heap.size, 0, none⟩ by simp [Addr.add], hr.cell]
      simpa using hj) (fun u hu => by simp at hu; subst hu; exact hX) (by unfold maxLen; omega) (by omega) (by simp; omega)
  exact wpList_append_run hgd s x hop hs hx hrun (h v' w' h2 h3)

/-- a list more -/
def Noted (w : World) (base k : Nat) (Ls : List Leaf) (A : Option Addr) (n c : Nat) (e : Ending) (w' : World) : Prop :=
  e = .returned (.tuple #[]) ∧ (∃ x y, BookAt w' base k (Ls ++ [⟨A, n, c, x, y⟩])) ∧ BF base w w'

set_option maxHeartbeats 1000000 in
theorem note_any (w : World) (base k : Nat) (Ls : List Leaf) (A : Option Addr) (n c : Nat) (h : BookAt w base k Ls) (hn : Ls.length ≤ 100000) (hB : base ≤ w.heap.size) :
    Calls Tryd.prog 20 #[.pointer (some ⟨k, 0, none⟩), .slice A n c] w (Noted w base k Ls A n c) := by
  have HN := veil (next_any w base k Ls h (by omega))
  obtain ⟨hk, v, hr, ho⟩ := h
  obtain ⟨LA, lc, rfl, hlc⟩ := own_slice ho
  have h0 : w.cell? ⟨k, 0, none⟩ = some (.slice LA Ls.length lc) := hr.cell 0
  obtain ⟨m, hm⟩ : ∃ m, m = Ls.length := ⟨_, rfl⟩
  rw [← hm] at h0 HN hn ho hlc hr
  have HM := veil hm
  have HR := veil hr
  have HO := veil ho
  clear hr ho hm
  go_enter Tryd.func20, Tryd.ntmps20
  go_wp2_with fail
  refine (HN.out).mono ?_
  rintro e w' ⟨rfl, rfl⟩
  go_wp2_with (first
    | (at_builtin
       refine wpList_note rfl (.tmp 11) (.tmp 20) rfl w base _ _ m _ rfl rfl rfl HO.out hn hB ?_
       intro v2 w2 ho2 hg2
       obtain ⟨LA2, lc2, e2, _⟩ := own_slice ho2
       subst e2
       have HO2 := veil ho2
       have hk2 := (HR.out.keep (below_new w _)).gb hg2 (own_ne HO.out HR.out (by decide))
       have c2 : w2.cell? ⟨k, 0, none⟩ = some (.slice LA m lc) := hk2.cell 0
       have f2 := hk2.frozen 0
       have HK2 := veil hk2
       have HG2 := veil hg2
       clear ho2 hk2 hg2))
  go_end0
  refine ⟨rfl, ⟨(1 + (m : Int)) % 256, (255 - (1 + (m : Int))) % 256, hk, .slice LA2 (m + 1) lc2, by simpa using HK2.out.set 0 (.slice LA2 (m + 1) lc2), ?_⟩, ?_, ?_⟩
  · have hne := own_ne HO2.out HK2.out (by decide)
    have := World.ownsRow.kept HO2.out (gb_set w2 k 0 (.slice LA2 (m + 1) lc2)) (.inr (fun e => hne e.symm))
    simpa [leafV, HM.out] using this
  · have hb2 : Below base w w2 := ((below_new w _).mono hB).grown HG2.out (by simp; omega) (fun j hj => (World.ownsRow.lt HO.out j hj).1)
    exact hb2.setCell hk _
  · intro g t cs hr h1 h2
    have hr2 := (hr.keep (below_new w _)).gb HG2.out (own_ne HO.out hr (fun e => h2 e.symm))
    refine hr2.far (p := ⟨k, 0, none⟩) (fun e => ?_) _
    simp only at e
    subst e
    have hx := HR.out
    unfold Row at hx hr
    rw [hx] at hr
    injection hr with hr
    injection hr with _ ht
    exact h1 ht.symm

end Go.Proofs.YtdebifkefpclaaaDoor
