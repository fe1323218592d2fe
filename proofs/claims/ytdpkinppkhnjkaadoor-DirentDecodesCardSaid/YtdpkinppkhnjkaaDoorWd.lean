/- A region that draws its order, whose operations read and whose callees make memory: one walk in the order of the text, in whichever world of a class. -/
import Derived.Test.YtdpkinppkhnjkaaDoorBase
import Derived.Deep.Quiet
import Derived.BigQuiet
namespace Go.Proofs.YtdpkinppkhnjkaaDoor
open Go.RowKit

/-- A world of a class. -/
structure Wd (S : World → Prop) where
  w : World
  ok : S w
theorem wp_region_wd {P : Program} {id : Nat} {Q : Exit → Act → World → Prop} {a : Act} {w : World} {l : List Oper} (S : World → Prop) (hm : P.follows .mixedOrders = true) (hB : Region.lexB .any l.toArray = true) (h0 : S w.drew)
    (h : wpQuiet P l.toArray (fun x => ∃ y : Wd S, x = y.w) (fun a' => ∀ w', (∃ y : Wd S, w' = y.w) → Q .normal a' w') l a) : (Code.region id l.toArray true).wp P Q a w :=
  wp_region_quiet (C := fun x => ∃ y : Wd S, x = y.w) hm hB ⟨⟨_, h0⟩, rfl⟩ (by simpa using h)
theorem wd_ok {S : World → Prop} {x : World} (h : ∃ y : Wd S, x = y.w) : S x := by
  obtain ⟨y, rfl⟩ := h; exact y.ok
/-- A callee whose memory is its own. -/
theorem Calls.wd {P : Program} {S : World → Prop} {f : FuncId} {args : Array Value} {x : World} {v : Value} (hS : ∀ y, Below x.heap.size x y → S y)
    (h : Calls P f args x fun e w' => e = .returned v ∧ Below x.heap.size x w') : Calls P f args x fun e w'' => e = .returned v ∧ ∃ z : Wd S, w'' = z.w :=
  h.mono fun _ _ ⟨he, hb⟩ => ⟨he, ⟨_, hS _ hb⟩, rfl⟩
/-- A callee that leaves all as it was. -/
theorem Calls.wd_same {P : Program} {S : World → Prop} {f : FuncId} {args : Array Value} {x : World} {v : Value} (hS : S x)
    (h : Calls P f args x fun e w' => e = .returned v ∧ w' = x) : Calls P f args x fun e w'' => e = .returned v ∧ ∃ z : Wd S, w'' = z.w :=
  h.mono fun _ _ ⟨he, hw⟩ => ⟨he, ⟨x, hS⟩, hw⟩

end Go.Proofs.YtdpkinppkhnjkaaDoor
