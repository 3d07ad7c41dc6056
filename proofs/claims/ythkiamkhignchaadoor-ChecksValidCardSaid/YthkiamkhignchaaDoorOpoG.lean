/-
  Options out of bytes, by the code: whatever bytes there are.
  Conditions: at most 16000000 bytes.
-/
import Derived.Test.YthkiamkhignchaaDoorOpoC
namespace Go.Proofs.YthkiamkhignchaaDoor.Oz
set_option maxRecDepth 100000
open Go.RowKit Ops

def els (b : Nat) (acc : List Sp) : List El := acc.map fun x => ⟨x.k, some ⟨b, x.o, none⟩, x.n, x.n⟩
theorem els_len (b : Nat) (acc : List Sp) : (els b acc).length = acc.length := by simp [els]
theorem els_next (b : Nat) (acc : List Sp) (x : Sp) : els b (acc ++ [x]) = els b acc ++ [⟨x.k, some ⟨b, x.o, none⟩, x.n, x.n⟩] := by simp [els]
def leftC (w : World) (g : Nat) : Nat := match w.cell? ⟨g, 0, none⟩ with
  | some (.slice _ n _) => n
  | _ => 0
/-- what a call of Get answers -/
def GotO (w : World) (zs : List Int) (R : Option (List Sp)) (e : Ending) (w' : World) : Prop := match R with
  | none => e = .returned (.tuple #[.slice none 0 0, .int .i64 4]) ∧ Below w.heap.size w w'
  | some ds => ∃ A b base cap L, e = .returned (.tuple #[.slice A ds.length ds.length, .int .i64 0]) ∧ (b, 5, bv zs) ∈ L ∧ Many w w' L base (.slice A ds.length cap) (els b ds)
theorem num_one {zs : List Int} {o : Nat} (h : o < zs.length) : num ((zs.drop o).take 1) = zs.getD o 0 := by
  have := num_next (zs.drop o) 0 (by simp; omega)
  simpa [num, List.getD] using this

end Go.Proofs.YthkiamkhignchaaDoor.Oz
