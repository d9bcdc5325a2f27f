/-
  Numbers that are prime. No condition.
-/
import Derived.Test.YtojpbfkdkkdpcaaDoorFermat
namespace Go.Proofs.YtojpbfkdkkdpcaaDoor
set_option linter.unusedVariables false

theorem prk_2 : Pr 2 := pr_small 2 (by omega) (by decide +kernel)
theorem prk_5 : Pr 5 := pr_small 3 (by omega) (by decide +kernel)
theorem prk_31 : Pr 31 := pr_small 6 (by omega) (by decide +kernel)
theorem prk_283 : Pr 283 := pr_small 17 (by omega) (by decide +kernel)
theorem prk_3083 : Pr 3083 := pr_small 56 (by omega) (by decide +kernel)
theorem prk_3 : Pr 3 := pr_small 2 (by omega) (by decide +kernel)
theorem prk_13 : Pr 13 := pr_small 4 (by omega) (by decide +kernel)
theorem prk_10390147 : Pr 10390147 :=
  pr_of_cube (f := 24) (by decide +kernel) (by decide +kernel) [(2, 1, 2), (3, 1, 2), (13, 1, 2), (31, 1, 2)]
    (all_cons prk_2 (all_cons prk_3 (all_cons prk_13 (all_cons prk_31 all_nil))))
    (by decide +kernel) (by decide +kernel) 2418 1879 1 (by decide +kernel) (by decide +kernel) (by decide +kernel) (by decide +kernel) (by decide +kernel) (.inr ⟨1878, by decide +kernel, by decide +kernel⟩)
theorem prk_59 : Pr 59 := pr_small 8 (by omega) (by decide +kernel)
theorem prk_139 : Pr 139 := pr_small 12 (by omega) (by decide +kernel)
theorem prk_43 : Pr 43 := pr_small 7 (by omega) (by decide +kernel)
theorem prk_1847 : Pr 1847 := pr_small 43 (by omega) (by decide +kernel)
theorem prk_x712853770641_51 : Pr 1810712853770641 :=
  pr_of_cube (f := 51) (by decide +kernel) (by decide +kernel) [(2, 4, 11), (3, 1, 2), (5, 1, 2), (43, 1, 2), (1847, 1, 2)]
    (all_cons prk_2 (all_cons prk_3 (all_cons prk_5 (all_cons prk_43 (all_cons prk_1847 all_nil)))))
    (by decide +kernel) (by decide +kernel) 19061040 18751331 4 (by decide +kernel) (by decide +kernel) (by decide +kernel) (by decide +kernel) (by decide +kernel) (.inr ⟨18751330, by decide +kernel, by decide +kernel⟩)
theorem prk_37 : Pr 37 := pr_small 7 (by omega) (by decide +kernel)
theorem prk_47 : Pr 47 := pr_small 7 (by omega) (by decide +kernel)
theorem prk_6314855047 : Pr 6314855047 :=
  pr_of_sq (f := 33) (by decide +kernel) (by decide +kernel) [(2, 1, 3), (3, 1, 2), (37, 1, 2), (47, 2, 2)]
    (all_cons prk_2 (all_cons prk_3 (all_cons prk_37 (all_cons prk_47 all_nil))))
    (by decide +kernel) (by decide +kernel) (by decide +kernel)
theorem prk_24499 : Pr 24499 := pr_small 157 (by omega) (by decide +kernel)
theorem prk_646879 : Pr 646879 := pr_small 805 (by omega) (by decide +kernel)
theorem prk_x899010458823_102 : Pr 2731182515094649967899010458823 :=
  pr_of_cube (f := 102) (by decide +kernel) (by decide +kernel) [(2, 1, 5), (24499, 1, 2), (646879, 1, 2)]
    (all_cons prk_2 (all_cons prk_24499 (all_cons prk_646879 all_nil)))
    (by decide +kernel) (by decide +kernel) 31695777242 24656914135 2718616268 (by decide +kernel) (by decide +kernel) (by decide +kernel) (by decide +kernel) (by decide +kernel) (.inr ⟨24656914134, by decide +kernel, by decide +kernel⟩)
theorem prk_x928163915119_140 : Pr 1345267691798441114533865426211928163915119 :=
  pr_of_sq (f := 140) (by decide +kernel) (by decide +kernel) [(2, 1, 3), (3, 1, 5), (13, 1, 2), (6314855047, 1, 2), (2731182515094649967899010458823, 1, 2)]
    (all_cons prk_2 (all_cons prk_3 (all_cons prk_13 (all_cons prk_6314855047 (all_cons prk_x899010458823_102 all_nil)))))
    (by decide +kernel) (by decide +kernel) (by decide +kernel)
theorem prk_x363265418159_205 : Pr 39953525208352098188797316830719885341485476593085363265418159 :=
  pr_of_sq (f := 205) (by decide +kernel) (by decide +kernel) [(2, 1, 13), (59, 1, 2), (139, 1, 2), (1810712853770641, 1, 2), (1345267691798441114533865426211928163915119, 1, 2)]
    (all_cons prk_2 (all_cons prk_59 (all_cons prk_139 (all_cons prk_x712853770641_51 (all_cons prk_x928163915119_140 all_nil)))))
    (by decide +kernel) (by decide +kernel) (by decide +kernel)
theorem prk_x570697513071_256 : Pr 112278977878014794934387468732230951909665353991314206570858853383570697513071 :=
  pr_of_sq (f := 256) (by decide +kernel) (by decide +kernel) [(2, 1, 13), (5, 1, 2), (31, 1, 2), (283, 1, 2), (3083, 1, 2), (10390147, 1, 2), (39953525208352098188797316830719885341485476593085363265418159, 1, 2)]
    (all_cons prk_2 (all_cons prk_5 (all_cons prk_31 (all_cons prk_283 (all_cons prk_3083 (all_cons prk_10390147 (all_cons prk_x363265418159_205 all_nil)))))))
    (by decide +kernel) (by decide +kernel) (by decide +kernel)
theorem prk_7 : Pr 7 := pr_small 3 (by omega) (by decide +kernel)
theorem prk_1381 : Pr 1381 := pr_small 38 (by omega) (by decide +kernel)
theorem prk_4422287917 : Pr 4422287917 :=
  pr_of_cube (f := 33) (by decide +kernel) (by decide +kernel) [(2, 2, 2), (3, 2, 5), (1381, 1, 2)]
    (all_cons prk_2 (all_cons prk_3 (all_cons prk_1381 all_nil)))
    (by decide +kernel) (by decide +kernel) 49716 39235 1 (by decide +kernel) (by decide +kernel) (by decide +kernel) (by decide +kernel) (by decide +kernel) (.inr ⟨39234, by decide +kernel, by decide +kernel⟩)
theorem prk_179749 : Pr 179749 := pr_small 424 (by omega) (by decide +kernel)
theorem prk_x995622942689_75 : Pr 27249882203995622942689 :=
  pr_of_cube (f := 75) (by decide +kernel) (by decide +kernel) [(2, 5, 11), (3, 2, 2), (179749, 1, 2)]
    (all_cons prk_2 (all_cons prk_3 (all_cons prk_179749 all_nil)))
    (by decide +kernel) (by decide +kernel) 51767712 3187867 10168261 (by decide +kernel) (by decide +kernel) (by decide +kernel) (by decide +kernel) (by decide +kernel) (.inr ⟨3187860, by decide +kernel, by decide +kernel⟩)
theorem prk_x868688280671_80 : Pr 817496466119868688280671 :=
  pr_of_sq (f := 80) (by decide +kernel) (by decide +kernel) [(2, 1, 3), (3, 1, 2), (5, 1, 2), (27249882203995622942689, 1, 2)]
    (all_cons prk_2 (all_cons prk_3 (all_cons prk_5 (all_cons prk_x995622942689_75 all_nil))))
    (by decide +kernel) (by decide +kernel) (by decide +kernel)
theorem prk_x955283313407_256 : Pr 112289642932016304371756649481332778992551393574107444139052838912955283313407 :=
  pr_of_cube (f := 256) (by decide +kernel) (by decide +kernel) [(2, 1, 3), (3, 1, 3), (7, 1, 2), (4422287917, 1, 2), (817496466119868688280671, 1, 2)]
    (all_cons prk_2 (all_cons prk_3 (all_cons prk_7 (all_cons prk_4422287917 (all_cons prk_x868688280671_80 all_nil)))))
    (by decide +kernel) (by decide +kernel) 151838599261107997300030536453996894 139023327389480914476515463068014463 4870519 (by decide +kernel) (by decide +kernel) (by decide +kernel) (by decide +kernel) (by decide +kernel) (.inr ⟨139023327389480914476515463068014462, by decide +kernel, by decide +kernel⟩)
theorem prk_1097 : Pr 1097 := pr_small 34 (by omega) (by decide +kernel)
theorem prk_5231 : Pr 5231 := pr_small 73 (by omega) (by decide +kernel)
theorem prk_17 : Pr 17 := pr_small 5 (by omega) (by decide +kernel)
theorem prk_19 : Pr 19 := pr_small 5 (by omega) (by decide +kernel)
theorem prk_139652927 : Pr 139652927 :=
  pr_of_cube (f := 28) (by decide +kernel) (by decide +kernel) [(2, 1, 5), (7, 1, 2), (17, 1, 2), (19, 1, 2)]
    (all_cons prk_2 (all_cons prk_7 (all_cons prk_17 (all_cons prk_19 all_nil))))
    (by decide +kernel) (by decide +kernel) 4522 3751 6 (by decide +kernel) (by decide +kernel) (by decide +kernel) (by decide +kernel) (by decide +kernel) (.inr ⟨3750, by decide +kernel, by decide +kernel⟩)
theorem prk_11 : Pr 11 := pr_small 4 (by omega) (by decide +kernel)
theorem prk_97 : Pr 97 := pr_small 10 (by omega) (by decide +kernel)
theorem prk_311 : Pr 311 := pr_small 18 (by omega) (by decide +kernel)
theorem prk_x364614140647_42 : Pr 3364614140647 :=
  pr_of_sq (f := 42) (by decide +kernel) (by decide +kernel) [(2, 1, 3), (3, 1, 2), (11, 1, 2), (97, 1, 2), (311, 1, 2)]
    (all_cons prk_2 (all_cons prk_3 (all_cons prk_11 (all_cons prk_97 (all_cons prk_311 all_nil)))))
    (by decide +kernel) (by decide +kernel) (by decide +kernel)
theorem prk_x409046197281_230 : Pr 1038515761502732774290605519516383798236899882625902882727409046197281 :=
  pr_of_cube (f := 230) (by decide +kernel) (by decide +kernel) [(2, 5, 7), (3, 2, 2), (5, 1, 2), (139652927, 1, 2), (3364614140647, 1, 2)]
    (all_cons prk_2 (all_cons prk_3 (all_cons prk_5 (all_cons prk_139652927 (all_cons prk_x364614140647_42 all_nil)))))
    (by decide +kernel) (by decide +kernel) 676624626672398242227360 467861291984321743967533 2268388783860313342089 (by decide +kernel) (by decide +kernel) (by decide +kernel) (by decide +kernel) (by decide +kernel) (.inr ⟨467861291984321743967532, by decide +kernel, by decide +kernel⟩)
theorem prk_x988810741873_256 : Pr 95350817846681796337898091958903254439827423116154551737010290600988810741873 :=
  pr_of_sq (f := 256) (by decide +kernel) (by decide +kernel) [(2, 4, 3), (1097, 1, 2), (5231, 1, 2), (1038515761502732774290605519516383798236899882625902882727409046197281, 1, 2)]
    (all_cons prk_2 (all_cons prk_1097 (all_cons prk_5231 (all_cons prk_x409046197281_230 all_nil))))
    (by decide +kernel) (by decide +kernel) (by decide +kernel)
theorem prk_358531 : Pr 358531 := pr_small 599 (by omega) (by decide +kernel)
theorem prk_1853701 : Pr 1853701 :=
  pr_of_cube (f := 21) (by decide +kernel) (by decide +kernel) [(2, 2, 2), (3, 1, 2), (5, 2, 2)]
    (all_cons prk_2 (all_cons prk_3 (all_cons prk_5 all_nil)))
    (by decide +kernel) (by decide +kernel) 300 179 20 (by decide +kernel) (by decide +kernel) (by decide +kernel) (by decide +kernel) (by decide +kernel) (.inr ⟨178, by decide +kernel, by decide +kernel⟩)
theorem prk_40781423 : Pr 40781423 :=
  pr_of_sq (f := 26) (by decide +kernel) (by decide +kernel) [(2, 1, 5), (11, 1, 2), (1853701, 1, 2)]
    (all_cons prk_2 (all_cons prk_11 (all_cons prk_1853701 all_nil)))
    (by decide +kernel) (by decide +kernel) (by decide +kernel)
theorem prk_947 : Pr 947 := pr_small 31 (by omega) (by decide +kernel)
theorem prk_25912319 : Pr 25912319 :=
  pr_of_cube (f := 25) (by decide +kernel) (by decide +kernel) [(2, 1, 11), (17, 2, 2)]
    (all_cons prk_2 (all_cons prk_17 all_nil))
    (by decide +kernel) (by decide +kernel) 578 325 77 (by decide +kernel) (by decide +kernel) (by decide +kernel) (by decide +kernel) (by decide +kernel) (.inr ⟨324, by decide +kernel, by decide +kernel⟩)
theorem prk_310947829 : Pr 310947829 :=
  pr_of_sq (f := 29) (by decide +kernel) (by decide +kernel) [(2, 2, 2), (3, 1, 2), (25912319, 1, 2)]
    (all_cons prk_2 (all_cons prk_3 (all_cons prk_25912319 all_nil)))
    (by decide +kernel) (by decide +kernel) (by decide +kernel)
theorem prk_x766805564379_41 : Pr 1766805564379 :=
  pr_of_sq (f := 41) (by decide +kernel) (by decide +kernel) [(2, 1, 2), (3, 1, 2), (947, 1, 2), (310947829, 1, 2)]
    (all_cons prk_2 (all_cons prk_3 (all_cons prk_947 (all_cons prk_310947829 all_nil))))
    (by decide +kernel) (by decide +kernel) (by decide +kernel)
theorem prk_x505232254317_256 : Pr 92279200474456872667267992849871381863045564664392769007913652786505232254317 :=
  pr_of_cube (f := 256) (by decide +kernel) (by decide +kernel) [(2, 2, 2), (3, 1, 2), (358531, 1, 2), (40781423, 1, 2), (1766805564379, 1, 2)]
    (all_cons prk_2 (all_cons prk_3 (all_cons prk_358531 (all_cons prk_40781423 (all_cons prk_x766805564379_41 all_nil)))))
    (by decide +kernel) (by decide +kernel) 309998143191212078193783924 33046680529359337949194159 960252923360120076925650 (by decide +kernel) (by decide +kernel) (by decide +kernel) (by decide +kernel) (by decide +kernel) (.inr ⟨33046680529359337949194158, by decide +kernel, by decide +kernel⟩)
end Go.Proofs.YtojpbfkdkkdpcaaDoor
