/-
  The chapter's example of AES, round by round.
-/
import Derived.Test.YtafjpebgcgliaaaAesM
namespace Go.Proofs.Ytafjpebgcgliaaa
open Go.RowKit

def fl (l : List Nat) : Bk := fun i => l.getD i 0
def key0 : Bk := fun i => i
def blk0 : Bk := fun i => 17 * i
def kl0 : List Nat := [0, 1, 2, 3, 4, 5, 6, 7, 8, 9, 10, 11, 12, 13, 14, 15]
def kl1 : List Nat := [214, 170, 116, 253, 210, 175, 114, 250, 218, 166, 120, 241, 214, 171, 118, 254]
def kl2 : List Nat := [182, 146, 207, 11, 100, 61, 189, 241, 190, 155, 197, 0, 104, 48, 179, 254]
def kl3 : List Nat := [182, 255, 116, 78, 210, 194, 201, 191, 108, 89, 12, 191, 4, 105, 191, 65]
def kl4 : List Nat := [71, 247, 247, 188, 149, 53, 62, 3, 249, 108, 50, 188, 253, 5, 141, 253]
def kl5 : List Nat := [60, 170, 163, 232, 169, 159, 157, 235, 80, 243, 175, 87, 173, 246, 34, 170]
def kl6 : List Nat := [94, 57, 15, 125, 247, 166, 146, 150, 167, 85, 61, 193, 10, 163, 31, 107]
def kl7 : List Nat := [20, 249, 112, 26, 227, 95, 226, 140, 68, 10, 223, 77, 78, 169, 192, 38]
def kl8 : List Nat := [71, 67, 135, 53, 164, 28, 101, 185, 224, 22, 186, 244, 174, 191, 122, 210]
def kl9 : List Nat := [84, 153, 50, 209, 240, 133, 87, 104, 16, 147, 237, 156, 190, 44, 151, 78]
def kl10 : List Nat := [19, 17, 29, 127, 227, 148, 74, 23, 243, 7, 167, 139, 77, 43, 48, 197]
def sl0 : List Nat := [0, 16, 32, 48, 64, 80, 96, 112, 128, 144, 160, 176, 192, 208, 224, 240]
def sl1 : List Nat := [137, 216, 16, 232, 133, 90, 206, 104, 45, 24, 67, 216, 203, 18, 143, 228]
def sl2 : List Nat := [73, 21, 89, 143, 85, 229, 215, 160, 218, 202, 148, 250, 31, 10, 99, 247]
def sl3 : List Nat := [250, 99, 106, 40, 37, 179, 57, 201, 64, 102, 138, 49, 87, 36, 77, 23]
def sl4 : List Nat := [36, 114, 64, 35, 105, 102, 179, 250, 110, 210, 117, 50, 136, 66, 91, 108]
def sl5 : List Nat := [200, 22, 119, 188, 155, 122, 201, 59, 37, 2, 121, 146, 176, 38, 25, 150]
def sl6 : List Nat := [198, 47, 225, 9, 247, 94, 237, 195, 204, 121, 57, 93, 132, 249, 207, 93]
def sl7 : List Nat := [209, 135, 108, 15, 121, 196, 48, 10, 180, 85, 148, 173, 214, 111, 244, 31]
def sl8 : List Nat := [253, 227, 186, 210, 5, 229, 208, 215, 53, 71, 150, 78, 241, 254, 55, 241]
def sl9 : List Nat := [189, 110, 124, 61, 242, 181, 119, 158, 11, 97, 33, 110, 139, 16, 182, 137]
def sl10 : List Nat := [105, 196, 224, 216, 106, 123, 4, 48, 216, 205, 183, 128, 112, 180, 197, 90]
theorem kx0 : ∀ i < 16, nx (fl kl0) (gp 2 0) i = fl kl1 i := by decide +kernel
theorem kx1 : ∀ i < 16, nx (fl kl1) (gp 2 1) i = fl kl2 i := by decide +kernel
theorem kx2 : ∀ i < 16, nx (fl kl2) (gp 2 2) i = fl kl3 i := by decide +kernel
theorem kx3 : ∀ i < 16, nx (fl kl3) (gp 2 3) i = fl kl4 i := by decide +kernel
theorem kx4 : ∀ i < 16, nx (fl kl4) (gp 2 4) i = fl kl5 i := by decide +kernel
theorem kx5 : ∀ i < 16, nx (fl kl5) (gp 2 5) i = fl kl6 i := by decide +kernel
theorem kx6 : ∀ i < 16, nx (fl kl6) (gp 2 6) i = fl kl7 i := by decide +kernel
theorem kx7 : ∀ i < 16, nx (fl kl7) (gp 2 7) i = fl kl8 i := by decide +kernel
theorem kx8 : ∀ i < 16, nx (fl kl8) (gp 2 8) i = fl kl9 i := by decide +kernel
theorem kx9 : ∀ i < 16, nx (fl kl9) (gp 2 9) i = fl kl10 i := by decide +kernel
theorem sx0 : ∀ i < 16, rnd (fl sl0) (fl kl1) false i = fl sl1 i := by decide +kernel
theorem sx1 : ∀ i < 16, rnd (fl sl1) (fl kl2) false i = fl sl2 i := by decide +kernel
theorem sx2 : ∀ i < 16, rnd (fl sl2) (fl kl3) false i = fl sl3 i := by decide +kernel
theorem sx3 : ∀ i < 16, rnd (fl sl3) (fl kl4) false i = fl sl4 i := by decide +kernel
theorem sx4 : ∀ i < 16, rnd (fl sl4) (fl kl5) false i = fl sl5 i := by decide +kernel
theorem sx5 : ∀ i < 16, rnd (fl sl5) (fl kl6) false i = fl sl6 i := by decide +kernel
theorem sx6 : ∀ i < 16, rnd (fl sl6) (fl kl7) false i = fl sl7 i := by decide +kernel
theorem sx7 : ∀ i < 16, rnd (fl sl7) (fl kl8) false i = fl sl8 i := by decide +kernel
theorem sx8 : ∀ i < 16, rnd (fl sl8) (fl kl9) false i = fl sl9 i := by decide +kernel
theorem sx9 : ∀ i < 16, rnd (fl sl9) (fl kl10) true i = fl sl10 i := by decide +kernel
theorem ky0 : Same (kys key0 0) (fl kl0) := by unfold Same; decide
theorem ky1 : Same (kys key0 1) (fl kl1) := (nx_same ky0 _).trans kx0
theorem ky2 : Same (kys key0 2) (fl kl2) := (nx_same ky1 _).trans kx1
theorem ky3 : Same (kys key0 3) (fl kl3) := (nx_same ky2 _).trans kx2
theorem ky4 : Same (kys key0 4) (fl kl4) := (nx_same ky3 _).trans kx3
theorem ky5 : Same (kys key0 5) (fl kl5) := (nx_same ky4 _).trans kx4
theorem ky6 : Same (kys key0 6) (fl kl6) := (nx_same ky5 _).trans kx5
theorem ky7 : Same (kys key0 7) (fl kl7) := (nx_same ky6 _).trans kx6
theorem ky8 : Same (kys key0 8) (fl kl8) := (nx_same ky7 _).trans kx7
theorem ky9 : Same (kys key0 9) (fl kl9) := (nx_same ky8 _).trans kx8
theorem ky10 : Same (kys key0 10) (fl kl10) := (nx_same ky9 _).trans kx9
theorem se0 : Same (est key0 blk0 0) (fl sl0) := by unfold Same; decide
theorem se1 : Same (est key0 blk0 1) (fl sl1) := (rnd_same _ se0 ky1).trans sx0
theorem se2 : Same (est key0 blk0 2) (fl sl2) := (rnd_same _ se1 ky2).trans sx1
theorem se3 : Same (est key0 blk0 3) (fl sl3) := (rnd_same _ se2 ky3).trans sx2
theorem se4 : Same (est key0 blk0 4) (fl sl4) := (rnd_same _ se3 ky4).trans sx3
theorem se5 : Same (est key0 blk0 5) (fl sl5) := (rnd_same _ se4 ky5).trans sx4
theorem se6 : Same (est key0 blk0 6) (fl sl6) := (rnd_same _ se5 ky6).trans sx5
theorem se7 : Same (est key0 blk0 7) (fl sl7) := (rnd_same _ se6 ky7).trans sx6
theorem se8 : Same (est key0 blk0 8) (fl sl8) := (rnd_same _ se7 ky8).trans sx7
theorem se9 : Same (est key0 blk0 9) (fl sl9) := (rnd_same _ se8 ky9).trans sx8
theorem se10 : Same (est key0 blk0 10) (fl sl10) := (rnd_same _ se9 ky10).trans sx9
theorem enc_ex : Same (enc key0 blk0) (fl sl10) := se10
theorem key0_byt : Byt key0 := by unfold Byt; decide
theorem blk0_byt : Byt blk0 := by unfold Byt; decide
end Go.Proofs.Ytafjpebgcgliaaa
