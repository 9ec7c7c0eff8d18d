/-
  THE KIT of chapter 4's walks: tables (Tt: chapter 3's texts), texts in Huffman code and slices of bytes (Hu: chapter 2's texts).
-/
import Derived.Test.YtlkieeindnpidaaDoorTtQh
import Derived.Test.YtlkieeindnpidaaDoorTtIh
import Derived.Test.YtlkieeindnpidaaDoorHuS
import Derived.Test.YtlkieeindnpidaaDoorHuP
namespace Go.Proofs.YtlkieeindnpidaaDoor
open Go.RowKit
end Go.Proofs.YtlkieeindnpidaaDoor
