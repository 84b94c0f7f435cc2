/- What the project's functions of package day return, for every input: gathered. -/
import Derived.Test.YtjcoapjjnplnbaaDoorE1b
import Derived.Test.YtjcoapjjnplnbaaDoorE1g
namespace Go.Proofs.YtjcoapjjnplnbaaDoor
/-- what Of reads -/
def OfTab (w : World) : Prop := HasLen w
theorem Gr.ofT {w w' : World} (h : Gr w w') (k : OfTab w) : OfTab w' := h.len k
end Go.Proofs.YtjcoapjjnplnbaaDoor
