/-
  Lists of strings in rows of their own: append, load.
  Conditions: at most 16777216 of them.
-/
import Derived.Test.YtfaaogidbpfelaaDoorTxtM
import Derived.Test.YtfaaogidbpfelaaDoorMemB
namespace Go.Proofs.YtfaaogidbpfelaaDoor.Tx
open Go.RowKit

/-- strings, as cells -/
def sv (ls : List Str) : List Value := ls.map fun s => Value.string (bs s)
theorem sv_length (ls : List Str) : (sv ls).length = ls.length := by simp [sv]
theorem sv_get (ls : List Str) (j : Nat) (h : j < ls.length) : (sv ls)[j]? = some (.string (bs (ls.getD j []))) := by simp [sv, List.getD, h]
theorem sv_one (ls : List Str) : ∀ v ∈ sv ls, v.oneCell' = true := by
  intro v hv
  simp [sv] at hv
  obtain ⟨s, _, rfl⟩ := hv
  rfl
theorem info_str : (Tryd.prog.info? 9).map (fun i => (i.zero, i.size, i.bytes)) = some (some (.string ⟨#[]⟩), 1, 16) := by kernel_rfl
def SOwn (w : World) (base : Nat) (v : Value) (ls : List Str) : Prop := w.ownsRow base 9 1 v ls.length (sv ls)
theorem sown_nil (w : World) (base : Nat) : SOwn w base (.slice none 0 0) [] := World.ownsRow_nil w base _ _
theorem SOwn.keep {w w' : World} {base : Nat} {v : Value} {ls : List Str} (h : SOwn w base v ls) (hb : Below w.heap.size w w') : SOwn w' base v ls :=
  World.ownsRow.kept (row := none) h ⟨hb.os, hb.tape, hb.output, hb.size, fun k hk _ => hb.block k hk⟩ (by cases v.ownBlock <;> simp)
theorem SOwn.slice {w : World} {base : Nat} {v : Value} {ls : List Str} (h : SOwn w base v ls) : ∃ A c, v = .slice A ls.length c := by
  rcases h.2 with ⟨rfl, h0⟩ | ⟨g, cap, cur, rfl, _, hg, hc, _, _, ht⟩
  · exact ⟨none, 0, by rw [h0]⟩
  · exact ⟨_, cap, rfl⟩
theorem SOwn.cells {w : World} {base : Nat} {A : Option Addr} {n c : Nat} {ls : List Str} (h : SOwn w base (.slice A n c) ls) (h0 : 0 < n) : n = ls.length ∧ ∃ g, A = some ⟨g, 0, none⟩ ∧ ∀ j, j < n → w.cell? ⟨g, j, none⟩ = some (.string (bs (ls.getD j []))) := by
  rcases h.2 with ⟨e, h0'⟩ | ⟨g, cap, cur, e, _, hg, hc, _, _, ht⟩
  · injection e with _ e2 _
    omega
  · injection e with e1 e2 e3
    subst e1 e2
    refine ⟨rfl, g, rfl, fun j hj => ?_⟩
    have hr : Row w g 9 cur := hg
    have e := sv_get ls j hj
    rw [← ht, List.getElem?_take, if_pos (by omega)] at e
    rw [hr.cell]
    simpa using e
theorem run_append_str (w : World) (base : Nat) (ty : TypeId) (v : Value) (ls : List Str) (s : Str) (hown : SOwn w base v ls) (hn : ls.length + 1 ≤ 16777216) (hbase : base ≤ w.heap.size) :
    ∃ v' w', (Builtin.append_ #[58, 58] ty #[v, .slice (some ⟨w.heap.size, 0, none⟩) 1 1]).run Tryd.prog (w.alloc (.cells #[.string (bs s)] 9)) = .ok v' w' ∧ SOwn w' base v' (ls ++ [s]) ∧ (w.alloc (.cells #[.string (bs s)] 9)).grownBy w' v.ownBlock := by
  obtain ⟨i, hi, hz0, hz1, hz2⟩ := info_parts info_str
  have hr : Row (w.alloc (.cells #[.string (bs s)] 9)) w.heap.size 9 #[.string (bs s)] := row_new rfl
  have hl : ∀ j u, (sv [s])[j]? = some u → (w.alloc (.cells #[.string (bs s)] 9)).cell? ((⟨w.heap.size, 0, none⟩ : Addr).add j) = some u := by
    intro j u hu
    have hj : j < 1 := by
      have := (List.getElem?_eq_some_iff.1 hu).1
      simpa [sv] using this
    obtain rfl : j = 0 := by omega
    rw [show ((⟨w.heap.size, 0, none⟩ : Addr).add 0) = ⟨w.heap.size, 0, none⟩ by simp [Addr.add], hr.cell]
    simpa [sv] using hu
  obtain ⟨v', w', hrun, h2, h3, _, h5⟩ := run_append_own_at (P := Tryd.prog) (w.alloc (.cells #[.string (bs s)] 9)) base 58 ty 9 i (.string ⟨#[]⟩) 1 16 Tryd.underlying58 hi hz0 hz1 hz2 rfl (by omega) v ls.length (sv ls) (hown.keep (below_new w _)) ⟨w.heap.size, 0, none⟩ 1 1 (sv [s])
      (by simp [sv_length]) hl (sv_one _) (by unfold maxLen; omega) (by omega) (by simp; omega)
  refine ⟨v', w', hrun, ?_, h3⟩
  unfold SOwn
  rw [List.length_append]
  simpa [sv] using h2
theorem sown_below {w w' : World} {base : Nat} {v : Value} {ls : List Str} {W : World} (h : SOwn w base v ls) (hg : w.grownBy w' v.ownBlock) (hb : Below base W w) (hB : base ≤ w.heap.size) : Below base W w' :=
  hb.grown hg hB (fun k hk => (World.ownsRow.lt h k hk).1)
end Go.Proofs.YtfaaogidbpfelaaDoor.Tx
