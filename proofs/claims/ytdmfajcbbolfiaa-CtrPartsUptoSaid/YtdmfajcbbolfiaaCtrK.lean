/-
  The encryption of the block of zeros under the key of zeros, round by round.
-/
import Derived.Test.YtdmfajcbbolfiaaCtrM
namespace Go.Proofs.Ytdmfajcbbolfiaa
open Go.RowKit

def zl (l : List Nat) : Bk := fun i => l.getD i 0
def zky : Bk := fun _ => 0
def zbk : Bk := fun _ => 0
def zk0 : List Nat := [0, 0, 0, 0, 0, 0, 0, 0, 0, 0, 0, 0, 0, 0, 0, 0]
def zk1 : List Nat := [98, 99, 99, 99, 98, 99, 99, 99, 98, 99, 99, 99, 98, 99, 99, 99]
def zk2 : List Nat := [155, 152, 152, 201, 249, 251, 251, 170, 155, 152, 152, 201, 249, 251, 251, 170]
def zk3 : List Nat := [144, 151, 52, 80, 105, 108, 207, 250, 242, 244, 87, 51, 11, 15, 172, 153]
def zk4 : List Nat := [238, 6, 218, 123, 135, 106, 21, 129, 117, 158, 66, 178, 126, 145, 238, 43]
def zk5 : List Nat := [127, 46, 43, 136, 248, 68, 62, 9, 141, 218, 124, 187, 243, 75, 146, 144]
def zk6 : List Nat := [236, 97, 75, 133, 20, 37, 117, 140, 153, 255, 9, 55, 106, 180, 155, 167]
def zk7 : List Nat := [33, 117, 23, 135, 53, 80, 98, 11, 172, 175, 107, 60, 198, 27, 240, 155]
def zk8 : List Nat := [14, 249, 3, 51, 59, 169, 97, 56, 151, 6, 10, 4, 81, 29, 250, 159]
def zk9 : List Nat := [177, 212, 216, 226, 138, 125, 185, 218, 29, 123, 179, 222, 76, 102, 73, 65]
def zk10 : List Nat := [180, 239, 91, 203, 62, 146, 226, 17, 35, 233, 81, 207, 111, 143, 24, 142]
def zs0 : List Nat := [0, 0, 0, 0, 0, 0, 0, 0, 0, 0, 0, 0, 0, 0, 0, 0]
def zs1 : List Nat := [1, 0, 0, 0, 1, 0, 0, 0, 1, 0, 0, 0, 1, 0, 0, 0]
def zs2 : List Nat := [198, 228, 228, 139, 164, 135, 135, 232, 198, 228, 228, 139, 164, 135, 135, 232]
def zs3 : List Nat := [40, 45, 243, 196, 106, 243, 134, 37, 74, 78, 144, 167, 8, 144, 229, 70]
def zs4 : List Nat := [171, 210, 205, 254, 55, 90, 181, 73, 80, 160, 175, 192, 117, 154, 106, 95]
def zs5 : List Nat := [212, 111, 79, 108, 85, 184, 150, 51, 126, 5, 187, 61, 121, 121, 222, 35]
def zs6 : List Nat := [4, 242, 202, 151, 7, 120, 40, 69, 226, 47, 1, 150, 73, 197, 215, 16]
def zs7 : List Nat := [183, 170, 228, 197, 29, 37, 45, 79, 108, 146, 15, 129, 148, 229, 129, 80]
def zs8 : List Nat := [35, 231, 140, 60, 19, 33, 99, 219, 170, 192, 198, 87, 46, 3, 203, 149]
def zs9 : List Nat := [127, 254, 14, 149, 81, 165, 102, 53, 14, 52, 124, 71, 41, 41, 236, 203]
def zs10 : List Nat := [102, 233, 75, 212, 239, 138, 44, 59, 136, 76, 250, 89, 202, 52, 43, 46]
theorem zkx0 : ∀ i < 16, nx (zl zk0) (gp 2 0) i = zl zk1 i := by decide +kernel
theorem zkx1 : ∀ i < 16, nx (zl zk1) (gp 2 1) i = zl zk2 i := by decide +kernel
theorem zkx2 : ∀ i < 16, nx (zl zk2) (gp 2 2) i = zl zk3 i := by decide +kernel
theorem zkx3 : ∀ i < 16, nx (zl zk3) (gp 2 3) i = zl zk4 i := by decide +kernel
theorem zkx4 : ∀ i < 16, nx (zl zk4) (gp 2 4) i = zl zk5 i := by decide +kernel
theorem zkx5 : ∀ i < 16, nx (zl zk5) (gp 2 5) i = zl zk6 i := by decide +kernel
theorem zkx6 : ∀ i < 16, nx (zl zk6) (gp 2 6) i = zl zk7 i := by decide +kernel
theorem zkx7 : ∀ i < 16, nx (zl zk7) (gp 2 7) i = zl zk8 i := by decide +kernel
theorem zkx8 : ∀ i < 16, nx (zl zk8) (gp 2 8) i = zl zk9 i := by decide +kernel
theorem zkx9 : ∀ i < 16, nx (zl zk9) (gp 2 9) i = zl zk10 i := by decide +kernel
theorem zsx0 : ∀ i < 16, rnd (zl zs0) (zl zk1) false i = zl zs1 i := by decide +kernel
theorem zsx1 : ∀ i < 16, rnd (zl zs1) (zl zk2) false i = zl zs2 i := by decide +kernel
theorem zsx2 : ∀ i < 16, rnd (zl zs2) (zl zk3) false i = zl zs3 i := by decide +kernel
theorem zsx3 : ∀ i < 16, rnd (zl zs3) (zl zk4) false i = zl zs4 i := by decide +kernel
theorem zsx4 : ∀ i < 16, rnd (zl zs4) (zl zk5) false i = zl zs5 i := by decide +kernel
theorem zsx5 : ∀ i < 16, rnd (zl zs5) (zl zk6) false i = zl zs6 i := by decide +kernel
theorem zsx6 : ∀ i < 16, rnd (zl zs6) (zl zk7) false i = zl zs7 i := by decide +kernel
theorem zsx7 : ∀ i < 16, rnd (zl zs7) (zl zk8) false i = zl zs8 i := by decide +kernel
theorem zsx8 : ∀ i < 16, rnd (zl zs8) (zl zk9) false i = zl zs9 i := by decide +kernel
theorem zsx9 : ∀ i < 16, rnd (zl zs9) (zl zk10) true i = zl zs10 i := by decide +kernel
theorem zky0 : Same (kys zky 0) (zl zk0) := by unfold Same; decide
theorem zky1 : Same (kys zky 1) (zl zk1) := (nx_same zky0 _).trans zkx0
theorem zky2 : Same (kys zky 2) (zl zk2) := (nx_same zky1 _).trans zkx1
theorem zky3 : Same (kys zky 3) (zl zk3) := (nx_same zky2 _).trans zkx2
theorem zky4 : Same (kys zky 4) (zl zk4) := (nx_same zky3 _).trans zkx3
theorem zky5 : Same (kys zky 5) (zl zk5) := (nx_same zky4 _).trans zkx4
theorem zky6 : Same (kys zky 6) (zl zk6) := (nx_same zky5 _).trans zkx5
theorem zky7 : Same (kys zky 7) (zl zk7) := (nx_same zky6 _).trans zkx6
theorem zky8 : Same (kys zky 8) (zl zk8) := (nx_same zky7 _).trans zkx7
theorem zky9 : Same (kys zky 9) (zl zk9) := (nx_same zky8 _).trans zkx8
theorem zky10 : Same (kys zky 10) (zl zk10) := (nx_same zky9 _).trans zkx9
theorem zse0 : Same (est zky zbk 0) (zl zs0) := by unfold Same; decide
theorem zse1 : Same (est zky zbk 1) (zl zs1) := (rnd_same _ zse0 zky1).trans zsx0
theorem zse2 : Same (est zky zbk 2) (zl zs2) := (rnd_same _ zse1 zky2).trans zsx1
theorem zse3 : Same (est zky zbk 3) (zl zs3) := (rnd_same _ zse2 zky3).trans zsx2
theorem zse4 : Same (est zky zbk 4) (zl zs4) := (rnd_same _ zse3 zky4).trans zsx3
theorem zse5 : Same (est zky zbk 5) (zl zs5) := (rnd_same _ zse4 zky5).trans zsx4
theorem zse6 : Same (est zky zbk 6) (zl zs6) := (rnd_same _ zse5 zky6).trans zsx5
theorem zse7 : Same (est zky zbk 7) (zl zs7) := (rnd_same _ zse6 zky7).trans zsx6
theorem zse8 : Same (est zky zbk 8) (zl zs8) := (rnd_same _ zse7 zky8).trans zsx7
theorem zse9 : Same (est zky zbk 9) (zl zs9) := (rnd_same _ zse8 zky9).trans zsx8
theorem zse10 : Same (est zky zbk 10) (zl zs10) := (rnd_same _ zse9 zky10).trans zsx9
theorem zenc_ex : Same (enc zky zbk) (zl zs10) := zse10
theorem zky_byt : Byt zky := by unfold Byt; decide
theorem zbk_byt : Byt zbk := by unfold Byt; decide
/-- the chapter's example: the stream of zeros begins so -/
theorem strm_ex : strm (fun _ => 0) (fun _ => 0) 0 3 = [0x66, 0xe9, 0x4b] := by
  have h0 : Same (cin (fun _ => 0) 0) zbk := by unfold Same; decide
  have h : ∀ j, j < 16 → strb (fun _ => 0) (fun _ => 0) j = zl zs10 j := fun j hj => by
    unfold strb cblk
    rw [show j / 16 = 0 by omega, show j % 16 = j by omega]
    exact ((enc_same (Same.refl zky) h0).trans zenc_ex) j hj
  unfold strm
  simp only [List.range_succ, List.range_zero, List.nil_append, List.map_append, List.map_cons, List.map_nil, Nat.zero_add, Nat.add_zero, h 0 (by decide), h 1 (by decide), h 2 (by decide)]
  rfl
end Go.Proofs.Ytdmfajcbbolfiaa
