/-
  The bytes of a packet, by the document's answer.
  Conditions: addresses of sixteen bytes; a body that reads as bytes, 16000000 at most.
-/
import Derived.Test.YthkiamkhignchaaDoorPktN
import Derived.Test.YthkiamkhignchaaDoorLayH
namespace Go.Proofs.YthkiamkhignchaaDoor.Hd
set_option maxRecDepth 100000
open Go.RowKit

/-- how many bytes stand behind the fixed header -/
def sizeP (k : Pk) (n : Nat) : Int := n + (if k.frag.is then 8 else 0) + (if k.alert then 8 else 0)
def behindP (k : Pk) : Int := if k.frag.is then 44 else k.next
def firstP (k : Pk) : Int := if k.alert then 0 else behindP k
def wordP (k : Pk) : Int := 8 * k.frag.off + (if k.frag.more then 1 else 0)
def headP (k : Pk) (n : Nat) : List Int := [96, 0, 0, 0, sizeP k n / 256, sizeP k n % 256, firstP k, k.hops]
def alertP (k : Pk) : List Int := if k.alert then [behindP k, 0, 5, 2, 0, 0, 1, 0] else []
def partP (k : Pk) : List Int := if k.frag.is then [k.next, 0, wordP k / 256, wordP k % 256] ++ be k.frag.id 4 else []
/-- a packet's bytes -/
def pb (k : Pk) (zs : List Int) : List Int := headP k zs.length ++ (k.s ++ (k.d ++ (alertP k ++ (partP k ++ zs))))
/-- may it be put? -/
def OkP (k : Pk) (n : Nat) : Prop := sizeP k n ≤ 65535 ∧ (k.frag.is = true → k.frag.off ≤ 8191)
/-- the numbers of a packet are what their kinds hold -/
structure Holds (k : Pk) : Prop where
  hops : 0 ≤ k.hops ∧ k.hops ≤ 255
  next : 0 ≤ k.next ∧ k.next ≤ 255
  off : 0 ≤ k.frag.off ∧ k.frag.off < 65536
  id : 0 ≤ k.frag.id ∧ k.frag.id < 4294967296

theorem Grow.lit {w0 w : World} {L : List Blk} (h : Lay w0 w L) (xs : List Int) (n : Nat) (hn : xs.length = n) (hm : n ≤ 1000) : Grow w0 (w.alloc (.cells (bv xs).toArray 5)) L w.heap.size (.slice (some ⟨w.heap.size, 0, none⟩) n n) xs := by
  refine ⟨h.keep (below_new w _), ?_, h.size, by simp, fun x hx => (h.row x hx).lt⟩
  subst hn
  refine ⟨by simp [bv_length], .inr ⟨w.heap.size, xs.length, (bv xs).toArray, rfl, Nat.le_refl _, heap_alloc_new w _, Nat.le_refl _, by unfold maxLen; omega, by simp [bv_length], ?_⟩⟩
  rw [Nat.mul_one, List.take_of_length_le (by simp [bv_length])]

end Go.Proofs.YthkiamkhignchaaDoor.Hd
