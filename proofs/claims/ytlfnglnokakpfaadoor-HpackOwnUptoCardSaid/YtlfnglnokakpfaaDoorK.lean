/-
  THE KIT of chapter 4's walks: tables (Tt: chapter 3's texts), texts in Huffman code and slices of bytes (Hu: chapter 2's texts).
-/
import Derived.Test.YtlfnglnokakpfaaDoorTtQh
import Derived.Test.YtlfnglnokakpfaaDoorTtIh
import Derived.Test.YtlfnglnokakpfaaDoorHuS
import Derived.Test.YtlfnglnokakpfaaDoorHuP
namespace Go.Proofs.YtlfnglnokakpfaaDoor
open Go.RowKit
end Go.Proofs.YtlfnglnokakpfaaDoor
