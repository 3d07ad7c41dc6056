/-
  Words of draws beside the reference's: what each step does to both.
  Conditions: at most 16777216 words.
-/
import Derived.Test.YtmjpmagfbiocnaaDrwS
import Derived.Test.YtmjpmagfbiocnaaDrwF
import Derived.Test.YtmjpmagfbiocnaaTwinW
namespace Go.Proofs.Ytmjpmagfbiocnaa.W32
open Go.RowKit

/-- words at g with q waiting, the reference's at r with p waiting, its list v in a block of its own -/
structure Pl (w0 w : World) (g r : Nat) (v : Value) (q p : List Int) : Prop where
  wd : Wd w g q
  rf : Rf w w0.heap.size r v p
  gr : g ≠ r
  ng : v.ownBlock ≠ some g
  bel : Below w0.heap.size w0 w
  lg : w0.heap.size ≤ g
  lr : w0.heap.size ≤ r

theorem Pl.size {w0 w : World} {g r : Nat} {v : Value} {q p : List Int} (h : Pl w0 w g r v q p) : w0.heap.size ≤ w.heap.size := h.bel.size
theorem Pl.own {w0 w : World} {g r : Nat} {v : Value} {q p : List Int} (h : Pl w0 w g r v q p) {x : Nat} (e : v.ownBlock = some x) : w0.heap.size ≤ x ∧ x < w.heap.size := World.ownsRow.lt h.rf.own x e
theorem Pl.keep {w0 w w1 : World} {g r : Nat} {v : Value} {q p : List Int} (h : Pl w0 w g r v q p) (hb : Below w.heap.size w w1) : Pl w0 w1 g r v q p :=
  ⟨h.wd.keep hb, h.rf.keep hb, h.gr, h.ng, h.bel.trans (hb.mono h.size), h.lg, h.lr⟩
theorem Pl.turn {w0 w w1 : World} {g r : Nat} {v : Value} {q q' p : List Int} (h : Pl w0 w g r v q p) (hw : Wd w1 g q') (hg : w.grownBy w1 (some g)) : Pl w0 w1 g r v q' p :=
  ⟨hw, h.rf.gb hg h.gr.symm h.ng, h.gr, h.ng, below_gb h.bel hg h.size h.lg, h.lg, h.lr⟩
theorem Alt.more {w w' : World} {r : Nat} (h : Alt w w' r none) (ob : Option Nat) : Alt w w' r ob := ⟨h.os, h.tape, h.output, h.size, fun i hi h1 _ => h.block i hi h1 (by simp)⟩
theorem Pl.ref {w0 w w1 : World} {g r : Nat} {v v' : Value} {q p p' : List Int} (h : Pl w0 w g r v q p) (hr : Rf w1 w0.heap.size r v' p') (ha : Alt w w1 r v.ownBlock) (hl : Lies w v.ownBlock v') : Pl w0 w1 g r v' q p' := by
  refine ⟨h.wd.alt ha h.gr (fun e => h.ng e.symm), hr, h.gr, fun e => ?_, below_alt h.bel ha h.size h.lr (fun x e => (h.own e).1), h.lg, h.lr⟩
  rcases hl g e with e1 | e1
  · exact h.ng e1.symm
  · have := h.wd.lt
    omega
theorem Pl.away {w0 w w1 : World} {g r t : Nat} {v : Value} {q p : List Int} (h : Pl w0 w g r v q p) (hg : w.grownBy w1 (some t)) (h1 : t ≠ g) (h2 : t ≠ r) (h3 : v.ownBlock ≠ some t) (h4 : w0.heap.size ≤ t) : Pl w0 w1 g r v q p :=
  ⟨h.wd.gb hg (fun e => h1 (by injection e with e; exact e.symm)), h.rf.gb hg h2.symm h3, h.gr, h.ng, below_gb h.bel hg h.size h4, h.lg, h.lr⟩

theorem refFeed_k {w : World} {base r : Nat} {v : Value} {q zs : List Int} (A : Option Addr) (n c k : Nat) (h : Rf w base r v q) (hb : base ≤ w.heap.size) (hQ : q.length ≤ 256) (hr : Rd w A zs) (hl : zs.length = n) (hn : n ≤ 1000000)
    (ho : zs ≠ [] → ∀ a, A = some a → a.block ≠ r ∧ some a.block ≠ v.ownBlock) (hk : k = min n (256 - q.length)) :
    Calls Try.prog 12 #[.pointer (some ⟨r, 0, none⟩), .slice A n c] w
      fun e w' => e = .returned (.int .i64 k) ∧ ∃ v', Rf w' base r v' (q ++ zs.take k) ∧ Alt w w' r v.ownBlock ∧ Lies w v.ownBlock v' := by
  subst hk
  exact refFeed_at A n c _ h hb rfl hQ hr hl hn ho

theorem TwinAt.gb {w w' : World} {t g : Nat} {zs : List Int} (h : TwinAt w t zs) (hg : w.grownBy w' (some g)) (h1 : t ≠ g) : TwinAt w' t zs := Row.gb h hg (fun e => h1 (by injection e))
theorem TwinAt.alt {w w' : World} {t r : Nat} {ob : Option Nat} {zs : List Int} (h : TwinAt w t zs) (k : Alt w w' r ob) (h1 : t ≠ r) (h2 : some t ≠ ob) : TwinAt w' t zs := Row.alt h k h1 h2
theorem twin_new (w : World) (zs : List Int) : TwinAt (w.alloc (.cells (bv (zs ++ List.replicate 4 3351707649)).toArray 31)) w.heap.size zs := row_new rfl

theorem pl_new {w0 w : World} {g r : Nat} (hw : Wd w g []) (hr : Row w r 30 #[.slice none 0 0]) (hg : g ≠ r) (hb : Below w0.heap.size w0 w) (lg : w0.heap.size ≤ g) (lr : w0.heap.size ≤ r) : Pl w0 w g r (.slice none 0 0) [] [] :=
  ⟨hw, ⟨hr, own_nil _ _, by simp [Value.ownBlock]⟩, hg, by simp [Value.ownBlock], hb, lg, lr⟩

theorem Wd.drewN {w : World} {g : Nat} {q : List Int} (h : Wd w g q) (n : Nat) : Wd (w.drewN n) g q := h.keep (below_still (Below.refl _ _) ⟨n, rfl⟩)
theorem Pl.drewN {w0 w : World} {g r : Nat} {v : Value} {q p : List Int} (h : Pl w0 w g r v q p) (n : Nat) : Pl w0 (w.drewN n) g r v q p := h.keep (below_still (Below.refl _ _) ⟨n, rfl⟩)
/-- how long the reference's list is -/
def lenAt (w : World) (r : Nat) : Nat := match w.cell? ⟨r, 0, none⟩ with | some (.slice _ m _) => m | _ => 0
theorem lenAt_of {w : World} {r m c : Nat} {A : Option Addr} (h : w.cell? ⟨r, 0, none⟩ = some (.slice A m c)) : lenAt w r = m := by simp [lenAt, h]
theorem Rf.len {w : World} {base r : Nat} {v : Value} {q : List Int} (h : Rf w base r v q) : lenAt w r = q.length := by
  obtain ⟨A, c, rfl⟩ := own_is h.own
  exact lenAt_of (h.row.cell 0)

end Go.Proofs.Ytmjpmagfbiocnaa.W32
