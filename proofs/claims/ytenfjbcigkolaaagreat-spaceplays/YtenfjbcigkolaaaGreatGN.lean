/- Plain: a page as its head, lengths, bytes. -/
import Derived.Test.YtenfjbcigkolaaaGreatGL
namespace Go.Proofs.YtenfjbcigkolaaaGreat
open Go.ChangeShapes Go.WideShapes Go.ChangeAt Go.RowKit
set_option linter.unusedVariables false

/-- A page while it is laid byte by byte. -/
def hd6 (k n L : Nat) : List UInt8 := [UInt8.ofNat k, UInt8.ofNat n, UInt8.ofNat (L / 16777216), UInt8.ofNat (L / 65536), UInt8.ofNat (L / 256), UInt8.ofNat L]
def layH (H : List UInt8) (S : Nat → ByteArray) (n i : Nat) : List UInt8 := H ++ (cat (fun i => lenS (S i)) i ++ (zeros (n - i) ++ (cat S i ++ zeros (250 - n - (cat S i).length))))
def layI (H : List UInt8) (S : Nat → ByteArray) (n i k : Nat) : List UInt8 := H ++ (cat (fun i => lenS (S i)) (i + 1) ++ (zeros (n - (i + 1)) ++ ((cat S i ++ (S i).data.toList.take k) ++ zeros (250 - n - ((cat S i).length + k)))))
theorem pageL_eq (k L n : Nat) (S : Nat → ByteArray) : pageL k L n S = layH (hd6 k n L) S n n := by
  unfold pageL lay layH setL hd6
  rw [cat_lenS]
  simp
end Go.Proofs.YtenfjbcigkolaaaGreat
