/-
  The certificates of the curves' primes.
-/
import Derived.Test.YtiekipkmfopdoaaOrd
namespace Go.Proofs.Ytiekipkmfopdoaa

set_option maxRecDepth 100000

theorem pr_2 : Pr 2 := small_pr (by decide +kernel)

theorem pr_3 : Pr 3 := small_pr (by decide +kernel)

theorem pr_7 : Pr 7 := small_pr (by decide +kernel)

theorem pr_5 : Pr 5 := small_pr (by decide +kernel)

theorem pr_13441 : Pr 13441 :=
  lucas_pr (k := 4) (N := 13441) (a := 11) (L := [(2, 7), (3, 1), (5, 1), (7, 1)]) (by decide) (by decide +kernel) ⟨pr_2, pr_3, pr_5, pr_7, trivial⟩ (by decide +kernel)

theorem pr_29 : Pr 29 := small_pr (by decide +kernel)

theorem pr_31 : Pr 31 := small_pr (by decide +kernel)

theorem pr_11 : Pr 11 := small_pr (by decide +kernel)

theorem pr_13 : Pr 13 := small_pr (by decide +kernel)

theorem pr_7723 : Pr 7723 :=
  lucas_pr (k := 4) (N := 7723) (a := 3) (L := [(2, 1), (3, 3), (11, 1), (13, 1)]) (by decide) (by decide +kernel) ⟨pr_2, pr_3, pr_11, pr_13, trivial⟩ (by decide +kernel)

theorem pr_887 : Pr 887 := small_pr (by decide +kernel)

theorem pr_5323 : Pr 5323 :=
  lucas_pr (k := 4) (N := 5323) (a := 5) (L := [(2, 1), (3, 1), (887, 1)]) (by decide) (by decide +kernel) ⟨pr_2, pr_3, pr_887, trivial⟩ (by decide +kernel)

theorem pr_131 : Pr 131 := small_pr (by decide +kernel)

theorem pr_2621 : Pr 2621 :=
  lucas_pr (k := 4) (N := 2621) (a := 2) (L := [(2, 2), (5, 1), (131, 1)]) (by decide) (by decide +kernel) ⟨pr_2, pr_5, pr_131, trivial⟩ (by decide +kernel)

theorem pr_443 : Pr 443 := small_pr (by decide +kernel)

theorem pr_24809 : Pr 24809 :=
  lucas_pr (k := 4) (N := 24809) (a := 6) (L := [(2, 3), (7, 1), (443, 1)]) (by decide) (by decide +kernel) ⟨pr_2, pr_7, pr_443, trivial⟩ (by decide +kernel)

theorem pr_971 : Pr 971 := small_pr (by decide +kernel)

theorem pr_1373 : Pr 1373 :=
  lucas_pr (k := 4) (N := 1373) (a := 2) (L := [(2, 2), (7, 3)]) (by decide) (by decide +kernel) ⟨pr_2, pr_7, trivial⟩ (by decide +kernel)

theorem pr_13331831 : Pr 13331831 :=
  lucas_pr (k := 4) (N := 13331831) (a := 13) (L := [(2, 1), (5, 1), (971, 1), (1373, 1)]) (by decide) (by decide +kernel) ⟨pr_2, pr_5, pr_971, pr_1373, trivial⟩ (by decide +kernel)

theorem pr_173378833005251801 : Pr 173378833005251801 :=
  lucas_pr (k := 4) (N := 173378833005251801) (a := 6) (L := [(2, 3), (5, 2), (2621, 1), (24809, 1), (13331831, 1)]) (by decide) (by decide +kernel) ⟨pr_2, pr_5, pr_2621, pr_24809, pr_13331831, trivial⟩ (by decide +kernel)

theorem pr_22149492674086928081353 : Pr 22149492674086928081353 :=
  lucas_pr (k := 4) (N := 22149492674086928081353) (a := 5) (L := [(2, 3), (3, 1), (5323, 1), (173378833005251801, 1)]) (by decide) (by decide +kernel) ⟨pr_2, pr_3, pr_5323, pr_173378833005251801, trivial⟩ (by decide +kernel)

theorem pr_132896956044521568488119 : Pr 132896956044521568488119 :=
  lucas_pr (k := 4) (N := 132896956044521568488119) (a := 6) (L := [(2, 1), (3, 1), (22149492674086928081353, 1)]) (by decide) (by decide +kernel) ⟨pr_2, pr_3, pr_22149492674086928081353, trivial⟩ (by decide +kernel)

theorem pr_271 : Pr 271 := small_pr (by decide +kernel)

theorem pr_1627 : Pr 1627 :=
  lucas_pr (k := 4) (N := 1627) (a := 3) (L := [(2, 1), (3, 1), (271, 1)]) (by decide) (by decide +kernel) ⟨pr_2, pr_3, pr_271, trivial⟩ (by decide +kernel)

theorem pr_83 : Pr 83 := small_pr (by decide +kernel)

theorem pr_2657 : Pr 2657 :=
  lucas_pr (k := 4) (N := 2657) (a := 3) (L := [(2, 5), (83, 1)]) (by decide) (by decide +kernel) ⟨pr_2, pr_83, trivial⟩ (by decide +kernel)

theorem pr_67 : Pr 67 := small_pr (by decide +kernel)

theorem pr_4423 : Pr 4423 :=
  lucas_pr (k := 4) (N := 4423) (a := 3) (L := [(2, 1), (3, 1), (11, 1), (67, 1)]) (by decide) (by decide +kernel) ⟨pr_2, pr_3, pr_11, pr_67, trivial⟩ (by decide +kernel)

theorem pr_103 : Pr 103 := small_pr (by decide +kernel)

theorem pr_41201 : Pr 41201 :=
  lucas_pr (k := 4) (N := 41201) (a := 3) (L := [(2, 4), (5, 2), (103, 1)]) (by decide) (by decide +kernel) ⟨pr_2, pr_5, pr_103, trivial⟩ (by decide +kernel)

theorem pr_101 : Pr 101 := small_pr (by decide +kernel)

theorem pr_239 : Pr 239 := small_pr (by decide +kernel)

theorem pr_96557 : Pr 96557 :=
  lucas_pr (k := 4) (N := 96557) (a := 2) (L := [(2, 2), (101, 1), (239, 1)]) (by decide) (by decide +kernel) ⟨pr_2, pr_101, pr_239, trivial⟩ (by decide +kernel)

theorem pr_419 : Pr 419 := small_pr (by decide +kernel)

theorem pr_20113 : Pr 20113 :=
  lucas_pr (k := 4) (N := 20113) (a := 10) (L := [(2, 4), (3, 1), (419, 1)]) (by decide) (by decide +kernel) ⟨pr_2, pr_3, pr_419, trivial⟩ (by decide +kernel)

theorem pr_1206781 : Pr 1206781 :=
  lucas_pr (k := 4) (N := 1206781) (a := 10) (L := [(2, 2), (3, 1), (5, 1), (20113, 1)]) (by decide) (by decide +kernel) ⟨pr_2, pr_3, pr_5, pr_20113, trivial⟩ (by decide +kernel)

theorem pr_7240687 : Pr 7240687 :=
  lucas_pr (k := 4) (N := 7240687) (a := 3) (L := [(2, 1), (3, 1), (1206781, 1)]) (by decide) (by decide +kernel) ⟨pr_2, pr_3, pr_1206781, trivial⟩ (by decide +kernel)

theorem pr_53 : Pr 53 := small_pr (by decide +kernel)

theorem pr_107590001 : Pr 107590001 :=
  lucas_pr (k := 4) (N := 107590001) (a := 3) (L := [(2, 4), (5, 4), (7, 1), (29, 1), (53, 1)]) (by decide) (by decide +kernel) ⟨pr_2, pr_5, pr_7, pr_29, pr_53, trivial⟩ (by decide +kernel)

theorem pr_255515944373312847190720520512484175977 : Pr 255515944373312847190720520512484175977 :=
  lucas_pr (k := 4) (N := 255515944373312847190720520512484175977) (a := 3) (L := [(2, 3), (7, 2), (11, 1), (1627, 1), (2657, 1), (4423, 1), (41201, 1), (96557, 1), (7240687, 1), (107590001, 1)]) (by decide) (by decide +kernel) ⟨pr_2, pr_7, pr_11, pr_1627, pr_2657, pr_4423, pr_41201, pr_96557, pr_7240687, pr_107590001, trivial⟩ (by decide +kernel)

theorem pr_205115282021455665897114700593932402728804164701536103180137503955397371 : Pr 205115282021455665897114700593932402728804164701536103180137503955397371 :=
  lucas_pr (k := 4) (N := 205115282021455665897114700593932402728804164701536103180137503955397371) (a := 10) (L := [(2, 1), (3, 1), (5, 1), (29, 2), (31, 1), (7723, 1), (132896956044521568488119, 1), (255515944373312847190720520512484175977, 1)]) (by decide) (by decide +kernel) ⟨pr_2, pr_3, pr_5, pr_29, pr_31, pr_7723, pr_132896956044521568488119, pr_255515944373312847190720520512484175977, trivial⟩ (by decide +kernel)

/-- SecpP is prime: Fermat's law. -/
theorem fermatSecpP : Ferm 115792089237316195423570985008687907853269984665640564039457584007908834671663 :=
  lucas (k := 4) (N := 115792089237316195423570985008687907853269984665640564039457584007908834671663) (a := 3) (L := [(2, 1), (3, 1), (7, 1), (13441, 1), (205115282021455665897114700593932402728804164701536103180137503955397371, 1)]) (by decide) (by decide +kernel) ⟨pr_2, pr_3, pr_7, pr_13441, pr_205115282021455665897114700593932402728804164701536103180137503955397371, trivial⟩ (by decide +kernel)

theorem pr_149 : Pr 149 := small_pr (by decide +kernel)

theorem pr_631 : Pr 631 := small_pr (by decide +kernel)

theorem pr_23 : Pr 23 := small_pr (by decide +kernel)

theorem pr_16699 : Pr 16699 :=
  lucas_pr (k := 4) (N := 16699) (a := 3) (L := [(2, 1), (3, 1), (11, 2), (23, 1)]) (by decide) (by decide +kernel) ⟨pr_2, pr_3, pr_11, pr_23, trivial⟩ (by decide +kernel)

theorem pr_2861 : Pr 2861 :=
  lucas_pr (k := 4) (N := 2861) (a := 2) (L := [(2, 2), (5, 1), (11, 1), (13, 1)]) (by decide) (by decide +kernel) ⟨pr_2, pr_5, pr_11, pr_13, trivial⟩ (by decide +kernel)

theorem pr_85831 : Pr 85831 :=
  lucas_pr (k := 4) (N := 85831) (a := 3) (L := [(2, 1), (3, 1), (5, 1), (2861, 1)]) (by decide) (by decide +kernel) ⟨pr_2, pr_3, pr_5, pr_2861, trivial⟩ (by decide +kernel)

theorem pr_97 : Pr 97 := small_pr (by decide +kernel)

theorem pr_2011 : Pr 2011 :=
  lucas_pr (k := 4) (N := 2011) (a := 3) (L := [(2, 1), (3, 1), (5, 1), (67, 1)]) (by decide) (by decide +kernel) ⟨pr_2, pr_3, pr_5, pr_67, trivial⟩ (by decide +kernel)

theorem pr_4681609 : Pr 4681609 :=
  lucas_pr (k := 4) (N := 4681609) (a := 23) (L := [(2, 3), (3, 1), (97, 1), (2011, 1)]) (by decide) (by decide +kernel) ⟨pr_2, pr_3, pr_97, pr_2011, trivial⟩ (by decide +kernel)

theorem pr_107361793816595537 : Pr 107361793816595537 :=
  lucas_pr (k := 4) (N := 107361793816595537) (a := 3) (L := [(2, 4), (16699, 1), (85831, 1), (4681609, 1)]) (by decide) (by decide +kernel) ⟨pr_2, pr_16699, pr_85831, pr_4681609, trivial⟩ (by decide +kernel)

theorem pr_17 : Pr 17 := small_pr (by decide +kernel)

theorem pr_59 : Pr 59 := small_pr (by decide +kernel)

theorem pr_4051 : Pr 4051 :=
  lucas_pr (k := 4) (N := 4051) (a := 10) (L := [(2, 1), (3, 4), (5, 2)]) (by decide) (by decide +kernel) ⟨pr_2, pr_3, pr_5, trivial⟩ (by decide +kernel)

theorem pr_19 : Pr 19 := small_pr (by decide +kernel)

theorem pr_113 : Pr 113 := small_pr (by decide +kernel)

theorem pr_120233 : Pr 120233 :=
  lucas_pr (k := 4) (N := 120233) (a := 3) (L := [(2, 3), (7, 1), (19, 1), (113, 1)]) (by decide) (by decide +kernel) ⟨pr_2, pr_7, pr_19, pr_113, trivial⟩ (by decide +kernel)

theorem pr_797 : Pr 797 := small_pr (by decide +kernel)

theorem pr_41 : Pr 41 := small_pr (by decide +kernel)

theorem pr_9349 : Pr 9349 :=
  lucas_pr (k := 4) (N := 9349) (a := 2) (L := [(2, 2), (3, 1), (19, 1), (41, 1)]) (by decide) (by decide +kernel) ⟨pr_2, pr_3, pr_19, pr_41, trivial⟩ (by decide +kernel)

theorem pr_44706919 : Pr 44706919 :=
  lucas_pr (k := 4) (N := 44706919) (a := 6) (L := [(2, 1), (3, 1), (797, 1), (9349, 1)]) (by decide) (by decide +kernel) ⟨pr_2, pr_3, pr_797, pr_9349, trivial⟩ (by decide +kernel)

theorem pr_174723607534414371449 : Pr 174723607534414371449 :=
  lucas_pr (k := 4) (N := 174723607534414371449) (a := 3) (L := [(2, 3), (17, 1), (59, 1), (4051, 1), (120233, 1), (44706919, 1)]) (by decide) (by decide +kernel) ⟨pr_2, pr_17, pr_59, pr_4051, pr_120233, pr_44706919, trivial⟩ (by decide +kernel)

theorem pr_109 : Pr 109 := small_pr (by decide +kernel)

theorem pr_293 : Pr 293 := small_pr (by decide +kernel)

theorem pr_2731 : Pr 2731 :=
  lucas_pr (k := 4) (N := 2731) (a := 3) (L := [(2, 1), (3, 1), (5, 1), (7, 1), (13, 1)]) (by decide) (by decide +kernel) ⟨pr_2, pr_3, pr_5, pr_7, pr_13, trivial⟩ (by decide +kernel)

theorem pr_305873 : Pr 305873 :=
  lucas_pr (k := 4) (N := 305873) (a := 3) (L := [(2, 4), (7, 1), (2731, 1)]) (by decide) (by decide +kernel) ⟨pr_2, pr_7, pr_2731, trivial⟩ (by decide +kernel)

theorem pr_1409 : Pr 1409 :=
  lucas_pr (k := 4) (N := 1409) (a := 3) (L := [(2, 7), (11, 1)]) (by decide) (by decide +kernel) ⟨pr_2, pr_11, trivial⟩ (by decide +kernel)

theorem pr_28181 : Pr 28181 :=
  lucas_pr (k := 4) (N := 28181) (a := 2) (L := [(2, 2), (5, 1), (1409, 1)]) (by decide) (by decide +kernel) ⟨pr_2, pr_5, pr_1409, trivial⟩ (by decide +kernel)

theorem pr_545358713 : Pr 545358713 :=
  lucas_pr (k := 4) (N := 545358713) (a := 5) (L := [(2, 3), (41, 1), (59, 1), (28181, 1)]) (by decide) (by decide +kernel) ⟨pr_2, pr_41, pr_59, pr_28181, trivial⟩ (by decide +kernel)

theorem pr_461 : Pr 461 := small_pr (by decide +kernel)

theorem pr_1871 : Pr 1871 :=
  lucas_pr (k := 4) (N := 1871) (a := 14) (L := [(2, 1), (5, 1), (11, 1), (17, 1)]) (by decide) (by decide +kernel) ⟨pr_2, pr_5, pr_11, pr_17, trivial⟩ (by decide +kernel)

theorem pr_1627771 : Pr 1627771 :=
  lucas_pr (k := 4) (N := 1627771) (a := 3) (L := [(2, 1), (3, 1), (5, 1), (29, 1), (1871, 1)]) (by decide) (by decide +kernel) ⟨pr_2, pr_3, pr_5, pr_29, pr_1871, trivial⟩ (by decide +kernel)

theorem pr_297159362677 : Pr 297159362677 :=
  lucas_pr (k := 4) (N := 297159362677) (a := 2) (L := [(2, 2), (3, 2), (11, 1), (461, 1), (1627771, 1)]) (by decide) (by decide +kernel) ⟨pr_2, pr_3, pr_11, pr_461, pr_1627771, trivial⟩ (by decide +kernel)

theorem pr_29047611873442575647497758179 : Pr 29047611873442575647497758179 :=
  lucas_pr (k := 4) (N := 29047611873442575647497758179) (a := 2) (L := [(2, 1), (293, 1), (305873, 1), (545358713, 1), (297159362677, 1)]) (by decide) (by decide +kernel) ⟨pr_2, pr_293, pr_305873, pr_545358713, pr_297159362677, trivial⟩ (by decide +kernel)

theorem pr_341948486974166000522343609283189 : Pr 341948486974166000522343609283189 :=
  lucas_pr (k := 4) (N := 341948486974166000522343609283189) (a := 2) (L := [(2, 2), (3, 3), (109, 1), (29047611873442575647497758179, 1)]) (by decide) (by decide +kernel) ⟨pr_2, pr_3, pr_109, pr_29047611873442575647497758179, trivial⟩ (by decide +kernel)

/-- SecpN is prime: Fermat's law. -/
theorem fermatSecpN : Ferm 115792089237316195423570985008687907852837564279074904382605163141518161494337 :=
  lucas (k := 4) (N := 115792089237316195423570985008687907852837564279074904382605163141518161494337) (a := 7) (L := [(2, 6), (3, 1), (149, 1), (631, 1), (107361793816595537, 1), (174723607534414371449, 1), (341948486974166000522343609283189, 1)]) (by decide) (by decide +kernel) ⟨pr_2, pr_3, pr_149, pr_631, pr_107361793816595537, pr_174723607534414371449, pr_341948486974166000522343609283189, trivial⟩ (by decide +kernel)

theorem pr_229 : Pr 229 := small_pr (by decide +kernel)

theorem pr_311 : Pr 311 := small_pr (by decide +kernel)

theorem pr_983 : Pr 983 := small_pr (by decide +kernel)

theorem pr_5501 : Pr 5501 :=
  lucas_pr (k := 4) (N := 5501) (a := 2) (L := [(2, 2), (5, 3), (11, 1)]) (by decide) (by decide +kernel) ⟨pr_2, pr_5, pr_11, trivial⟩ (by decide +kernel)

theorem pr_11003 : Pr 11003 :=
  lucas_pr (k := 4) (N := 11003) (a := 2) (L := [(2, 1), (5501, 1)]) (by decide) (by decide +kernel) ⟨pr_2, pr_5501, trivial⟩ (by decide +kernel)

theorem pr_1853641 : Pr 1853641 :=
  lucas_pr (k := 4) (N := 1853641) (a := 17) (L := [(2, 3), (3, 2), (5, 1), (19, 1), (271, 1)]) (by decide) (by decide +kernel) ⟨pr_2, pr_3, pr_5, pr_19, pr_271, trivial⟩ (by decide +kernel)

theorem pr_1231 : Pr 1231 :=
  lucas_pr (k := 4) (N := 1231) (a := 3) (L := [(2, 1), (3, 1), (5, 1), (41, 1)]) (by decide) (by decide +kernel) ⟨pr_2, pr_3, pr_5, pr_41, trivial⟩ (by decide +kernel)

theorem pr_4562087 : Pr 4562087 :=
  lucas_pr (k := 4) (N := 4562087) (a := 5) (L := [(2, 1), (17, 1), (109, 1), (1231, 1)]) (by decide) (by decide +kernel) ⟨pr_2, pr_17, pr_109, pr_1231, trivial⟩ (by decide +kernel)

theorem pr_73 : Pr 73 := small_pr (by decide +kernel)

theorem pr_89 : Pr 89 := small_pr (by decide +kernel)

theorem pr_37 : Pr 37 := small_pr (by decide +kernel)

theorem pr_2221 : Pr 2221 :=
  lucas_pr (k := 4) (N := 2221) (a := 2) (L := [(2, 2), (3, 1), (5, 1), (37, 1)]) (by decide) (by decide +kernel) ⟨pr_2, pr_3, pr_5, pr_37, trivial⟩ (by decide +kernel)

theorem pr_13327 : Pr 13327 :=
  lucas_pr (k := 4) (N := 13327) (a := 3) (L := [(2, 1), (3, 1), (2221, 1)]) (by decide) (by decide +kernel) ⟨pr_2, pr_3, pr_2221, trivial⟩ (by decide +kernel)

theorem pr_173171039 : Pr 173171039 :=
  lucas_pr (k := 4) (N := 173171039) (a := 13) (L := [(2, 1), (73, 1), (89, 1), (13327, 1)]) (by decide) (by decide +kernel) ⟨pr_2, pr_73, pr_89, pr_13327, trivial⟩ (by decide +kernel)

theorem pr_911 : Pr 911 := small_pr (by decide +kernel)

theorem pr_127 : Pr 127 := small_pr (by decide +kernel)

theorem pr_3557 : Pr 3557 :=
  lucas_pr (k := 4) (N := 3557) (a := 2) (L := [(2, 2), (7, 1), (127, 1)]) (by decide) (by decide +kernel) ⟨pr_2, pr_7, pr_127, trivial⟩ (by decide +kernel)

theorem pr_1263766531 : Pr 1263766531 :=
  lucas_pr (k := 4) (N := 1263766531) (a := 10) (L := [(2, 1), (3, 1), (5, 1), (13, 1), (911, 1), (3557, 1)]) (by decide) (by decide +kernel) ⟨pr_2, pr_3, pr_5, pr_13, pr_911, pr_3557, trivial⟩ (by decide +kernel)

theorem pr_35385462869 : Pr 35385462869 :=
  lucas_pr (k := 4) (N := 35385462869) (a := 2) (L := [(2, 2), (7, 1), (1263766531, 1)]) (by decide) (by decide +kernel) ⟨pr_2, pr_7, pr_1263766531, trivial⟩ (by decide +kernel)

theorem pr_2480874801745591 : Pr 2480874801745591 :=
  lucas_pr (k := 4) (N := 2480874801745591) (a := 6) (L := [(2, 1), (3, 2), (5, 1), (19, 1), (41, 1), (35385462869, 1)]) (by decide) (by decide +kernel) ⟨pr_2, pr_3, pr_5, pr_19, pr_41, pr_35385462869, trivial⟩ (by decide +kernel)

theorem pr_13427688667394608761327070753331941386769 : Pr 13427688667394608761327070753331941386769 :=
  lucas_pr (k := 4) (N := 13427688667394608761327070753331941386769) (a := 17) (L := [(2, 4), (3, 1), (7, 1), (11, 1), (1853641, 1), (4562087, 1), (173171039, 1), (2480874801745591, 1)]) (by decide) (by decide +kernel) ⟨pr_2, pr_3, pr_7, pr_11, pr_1853641, pr_4562087, pr_173171039, pr_2480874801745591, trivial⟩ (by decide +kernel)

theorem pr_3691 : Pr 3691 :=
  lucas_pr (k := 4) (N := 3691) (a := 2) (L := [(2, 1), (3, 2), (5, 1), (41, 1)]) (by decide) (by decide +kernel) ⟨pr_2, pr_3, pr_5, pr_41, trivial⟩ (by decide +kernel)

theorem pr_4999 : Pr 4999 :=
  lucas_pr (k := 4) (N := 4999) (a := 3) (L := [(2, 1), (3, 1), (7, 2), (17, 1)]) (by decide) (by decide +kernel) ⟨pr_2, pr_3, pr_7, pr_17, trivial⟩ (by decide +kernel)

theorem pr_405928799 : Pr 405928799 :=
  lucas_pr (k := 4) (N := 405928799) (a := 22) (L := [(2, 1), (11, 1), (3691, 1), (4999, 1)]) (by decide) (by decide +kernel) ⟨pr_2, pr_11, pr_3691, pr_4999, trivial⟩ (by decide +kernel)

theorem pr_233 : Pr 233 := small_pr (by decide +kernel)

theorem pr_327599 : Pr 327599 :=
  lucas_pr (k := 4) (N := 327599) (a := 19) (L := [(2, 1), (19, 1), (37, 1), (233, 1)]) (by decide) (by decide +kernel) ⟨pr_2, pr_19, pr_37, pr_233, trivial⟩ (by decide +kernel)

theorem pr_11465965001 : Pr 11465965001 :=
  lucas_pr (k := 4) (N := 11465965001) (a := 3) (L := [(2, 3), (5, 4), (7, 1), (327599, 1)]) (by decide) (by decide +kernel) ⟨pr_2, pr_5, pr_7, pr_327599, trivial⟩ (by decide +kernel)

/-- BnP is prime: Fermat's law. -/
theorem fermatBnP : Ferm 21888242871839275222246405745257275088696311157297823662689037894645226208583 :=
  lucas (k := 4) (N := 21888242871839275222246405745257275088696311157297823662689037894645226208583) (a := 3) (L := [(2, 1), (3, 2), (13, 1), (29, 1), (67, 1), (229, 1), (311, 1), (983, 1), (11003, 1), (13427688667394608761327070753331941386769, 1), (405928799, 1), (11465965001, 1)]) (by decide) (by decide +kernel) ⟨pr_2, pr_3, pr_13, pr_29, pr_67, pr_229, pr_311, pr_983, pr_11003, pr_13427688667394608761327070753331941386769, pr_405928799, pr_11465965001, trivial⟩ (by decide +kernel)

theorem pr_107 : Pr 107 := small_pr (by decide +kernel)

theorem pr_661 : Pr 661 := small_pr (by decide +kernel)

theorem pr_93001 : Pr 93001 :=
  lucas_pr (k := 4) (N := 93001) (a := 14) (L := [(2, 3), (3, 1), (5, 3), (31, 1)]) (by decide) (by decide +kernel) ⟨pr_2, pr_3, pr_5, pr_31, trivial⟩ (by decide +kernel)

theorem pr_12048837557 : Pr 12048837557 :=
  lucas_pr (k := 4) (N := 12048837557) (a := 2) (L := [(2, 2), (7, 2), (661, 1), (93001, 1)]) (by decide) (by decide +kernel) ⟨pr_2, pr_7, pr_661, pr_93001, trivial⟩ (by decide +kernel)

theorem pr_5156902474397 : Pr 5156902474397 :=
  lucas_pr (k := 4) (N := 5156902474397) (a := 2) (L := [(2, 2), (107, 1), (12048837557, 1)]) (by decide) (by decide +kernel) ⟨pr_2, pr_107, pr_12048837557, trivial⟩ (by decide +kernel)

theorem pr_1670836401704629 : Pr 1670836401704629 :=
  lucas_pr (k := 4) (N := 1670836401704629) (a := 2) (L := [(2, 2), (3, 4), (5156902474397, 1)]) (by decide) (by decide +kernel) ⟨pr_2, pr_3, pr_5156902474397, trivial⟩ (by decide +kernel)

theorem pr_823 : Pr 823 := small_pr (by decide +kernel)

theorem pr_47 : Pr 47 := small_pr (by decide +kernel)

theorem pr_223 : Pr 223 := small_pr (by decide +kernel)

theorem pr_20963 : Pr 20963 :=
  lucas_pr (k := 4) (N := 20963) (a := 2) (L := [(2, 1), (47, 1), (223, 1)]) (by decide) (by decide +kernel) ⟨pr_2, pr_47, pr_223, trivial⟩ (by decide +kernel)

theorem pr_41927 : Pr 41927 :=
  lucas_pr (k := 4) (N := 41927) (a := 5) (L := [(2, 1), (20963, 1)]) (by decide) (by decide +kernel) ⟨pr_2, pr_20963, trivial⟩ (by decide +kernel)

theorem pr_1593227 : Pr 1593227 :=
  lucas_pr (k := 4) (N := 1593227) (a := 2) (L := [(2, 1), (19, 1), (41927, 1)]) (by decide) (by decide +kernel) ⟨pr_2, pr_19, pr_41927, trivial⟩ (by decide +kernel)

theorem pr_379 : Pr 379 := small_pr (by decide +kernel)

theorem pr_409 : Pr 409 := small_pr (by decide +kernel)

theorem pr_1637 : Pr 1637 :=
  lucas_pr (k := 4) (N := 1637) (a := 2) (L := [(2, 2), (409, 1)]) (by decide) (by decide +kernel) ⟨pr_2, pr_409, trivial⟩ (by decide +kernel)

theorem pr_853 : Pr 853 := small_pr (by decide +kernel)

theorem pr_639533339 : Pr 639533339 :=
  lucas_pr (k := 4) (N := 639533339) (a := 2) (L := [(2, 1), (229, 1), (853, 1), (1637, 1)]) (by decide) (by decide +kernel) ⟨pr_2, pr_229, pr_853, pr_1637, trivial⟩ (by decide +kernel)

theorem pr_65865678001877903 : Pr 65865678001877903 :=
  lucas_pr (k := 4) (N := 65865678001877903) (a := 5) (L := [(2, 1), (83, 1), (379, 1), (1637, 1), (639533339, 1)]) (by decide) (by decide +kernel) ⟨pr_2, pr_83, pr_379, pr_1637, pr_639533339, trivial⟩ (by decide +kernel)

theorem pr_13818364434197438864469338081 : Pr 13818364434197438864469338081 :=
  lucas_pr (k := 4) (N := 13818364434197438864469338081) (a := 3) (L := [(2, 5), (5, 1), (823, 1), (1593227, 1), (65865678001877903, 1)]) (by decide) (by decide +kernel) ⟨pr_2, pr_5, pr_823, pr_1593227, pr_65865678001877903, trivial⟩ (by decide +kernel)

theorem pr_449 : Pr 449 := small_pr (by decide +kernel)

theorem pr_237073 : Pr 237073 :=
  lucas_pr (k := 4) (N := 237073) (a := 15) (L := [(2, 4), (3, 1), (11, 1), (449, 1)]) (by decide) (by decide +kernel) ⟨pr_2, pr_3, pr_11, pr_449, trivial⟩ (by decide +kernel)

/-- BnR is prime: Fermat's law. -/
theorem fermatBnR : Ferm 21888242871839275222246405745257275088548364400416034343698204186575808495617 :=
  lucas (k := 4) (N := 21888242871839275222246405745257275088548364400416034343698204186575808495617) (a := 5) (L := [(2, 28), (3, 2), (13, 1), (29, 1), (983, 1), (11003, 1), (1670836401704629, 1), (13818364434197438864469338081, 1), (237073, 1), (405928799, 1)]) (by decide) (by decide +kernel) ⟨pr_2, pr_3, pr_13, pr_29, pr_983, pr_11003, pr_1670836401704629, pr_13818364434197438864469338081, pr_237073, pr_405928799, trivial⟩ (by decide +kernel)

theorem pr_10177 : Pr 10177 :=
  lucas_pr (k := 4) (N := 10177) (a := 7) (L := [(2, 6), (3, 1), (53, 1)]) (by decide) (by decide +kernel) ⟨pr_2, pr_3, pr_53, trivial⟩ (by decide +kernel)

theorem pr_47737 : Pr 47737 :=
  lucas_pr (k := 4) (N := 47737) (a := 5) (L := [(2, 3), (3, 3), (13, 1), (17, 1)]) (by decide) (by decide +kernel) ⟨pr_2, pr_3, pr_13, pr_17, trivial⟩ (by decide +kernel)

theorem pr_859267 : Pr 859267 :=
  lucas_pr (k := 4) (N := 859267) (a := 2) (L := [(2, 1), (3, 2), (47737, 1)]) (by decide) (by decide +kernel) ⟨pr_2, pr_3, pr_47737, trivial⟩ (by decide +kernel)

theorem pr_43 : Pr 43 := small_pr (by decide +kernel)

theorem pr_609743 : Pr 609743 :=
  lucas_pr (k := 4) (N := 609743) (a := 5) (L := [(2, 1), (7, 1), (97, 1), (449, 1)]) (by decide) (by decide +kernel) ⟨pr_2, pr_7, pr_97, pr_449, trivial⟩ (by decide +kernel)

theorem pr_52437899 : Pr 52437899 :=
  lucas_pr (k := 4) (N := 52437899) (a := 2) (L := [(2, 1), (43, 1), (609743, 1)]) (by decide) (by decide +kernel) ⟨pr_2, pr_43, pr_609743, trivial⟩ (by decide +kernel)

theorem pr_941 : Pr 941 := small_pr (by decide +kernel)

theorem pr_947 : Pr 947 := small_pr (by decide +kernel)

theorem pr_7577 : Pr 7577 :=
  lucas_pr (k := 4) (N := 7577) (a := 3) (L := [(2, 3), (947, 1)]) (by decide) (by decide +kernel) ⟨pr_2, pr_947, trivial⟩ (by decide +kernel)

theorem pr_181 : Pr 181 := small_pr (by decide +kernel)

theorem pr_1087 : Pr 1087 :=
  lucas_pr (k := 4) (N := 1087) (a := 3) (L := [(2, 1), (3, 1), (181, 1)]) (by decide) (by decide +kernel) ⟨pr_2, pr_3, pr_181, trivial⟩ (by decide +kernel)

theorem pr_4349 : Pr 4349 :=
  lucas_pr (k := 4) (N := 4349) (a := 2) (L := [(2, 2), (1087, 1)]) (by decide) (by decide +kernel) ⟨pr_2, pr_1087, trivial⟩ (by decide +kernel)

theorem pr_582767 : Pr 582767 :=
  lucas_pr (k := 4) (N := 582767) (a := 5) (L := [(2, 1), (67, 1), (4349, 1)]) (by decide) (by decide +kernel) ⟨pr_2, pr_67, pr_4349, trivial⟩ (by decide +kernel)

theorem pr_9272813673901 : Pr 9272813673901 :=
  lucas_pr (k := 4) (N := 9272813673901) (a := 2) (L := [(2, 2), (3, 1), (5, 2), (7, 1), (7577, 1), (582767, 1)]) (by decide) (by decide +kernel) ⟨pr_2, pr_3, pr_5, pr_7, pr_7577, pr_582767, trivial⟩ (by decide +kernel)

theorem pr_1928745244171409 : Pr 1928745244171409 :=
  lucas_pr (k := 4) (N := 1928745244171409) (a := 3) (L := [(2, 4), (13, 1), (9272813673901, 1)]) (by decide) (by decide +kernel) ⟨pr_2, pr_13, pr_9272813673901, trivial⟩ (by decide +kernel)

theorem pr_7259797099061183477 : Pr 7259797099061183477 :=
  lucas_pr (k := 4) (N := 7259797099061183477) (a := 2) (L := [(2, 2), (941, 1), (1928745244171409, 1)]) (by decide) (by decide +kernel) ⟨pr_2, pr_941, pr_1928745244171409, trivial⟩ (by decide +kernel)

theorem pr_2584487767265781317813 : Pr 2584487767265781317813 :=
  lucas_pr (k := 4) (N := 2584487767265781317813) (a := 2) (L := [(2, 2), (89, 1), (7259797099061183477, 1)]) (by decide) (by decide +kernel) ⟨pr_2, pr_89, pr_7259797099061183477, trivial⟩ (by decide +kernel)

theorem pr_191 : Pr 191 := small_pr (by decide +kernel)

theorem pr_1686913 : Pr 1686913 :=
  lucas_pr (k := 4) (N := 1686913) (a := 10) (L := [(2, 7), (3, 1), (23, 1), (191, 1)]) (by decide) (by decide +kernel) ⟨pr_2, pr_3, pr_23, pr_191, trivial⟩ (by decide +kernel)

theorem pr_475709467 : Pr 475709467 :=
  lucas_pr (k := 4) (N := 475709467) (a := 2) (L := [(2, 1), (3, 1), (47, 1), (1686913, 1)]) (by decide) (by decide +kernel) ⟨pr_2, pr_3, pr_47, pr_1686913, trivial⟩ (by decide +kernel)

theorem pr_467 : Pr 467 := small_pr (by decide +kernel)

theorem pr_137 : Pr 137 := small_pr (by decide +kernel)

theorem pr_2741 : Pr 2741 :=
  lucas_pr (k := 4) (N := 2741) (a := 2) (L := [(2, 2), (5, 1), (137, 1)]) (by decide) (by decide +kernel) ⟨pr_2, pr_5, pr_137, trivial⟩ (by decide +kernel)

theorem pr_16447 : Pr 16447 :=
  lucas_pr (k := 4) (N := 16447) (a := 3) (L := [(2, 1), (3, 1), (2741, 1)]) (by decide) (by decide +kernel) ⟨pr_2, pr_3, pr_2741, trivial⟩ (by decide +kernel)

theorem pr_1453 : Pr 1453 :=
  lucas_pr (k := 4) (N := 1453) (a := 2) (L := [(2, 2), (3, 1), (11, 2)]) (by decide) (by decide +kernel) ⟨pr_2, pr_3, pr_11, trivial⟩ (by decide +kernel)

theorem pr_43591 : Pr 43591 :=
  lucas_pr (k := 4) (N := 43591) (a := 11) (L := [(2, 1), (3, 1), (5, 1), (1453, 1)]) (by decide) (by decide +kernel) ⟨pr_2, pr_3, pr_5, pr_1453, trivial⟩ (by decide +kernel)

theorem pr_927093389 : Pr 927093389 :=
  lucas_pr (k := 4) (N := 927093389) (a := 3) (L := [(2, 2), (13, 1), (409, 1), (43591, 1)]) (by decide) (by decide +kernel) ⟨pr_2, pr_13, pr_409, pr_43591, trivial⟩ (by decide +kernel)

theorem pr_64881703735777 : Pr 64881703735777 :=
  lucas_pr (k := 4) (N := 64881703735777) (a := 5) (L := [(2, 5), (3, 7), (927093389, 1)]) (by decide) (by decide +kernel) ⟨pr_2, pr_3, pr_927093389, trivial⟩ (by decide +kernel)

theorem pr_92691255082156974996979 : Pr 92691255082156974996979 :=
  lucas_pr (k := 4) (N := 92691255082156974996979) (a := 3) (L := [(2, 1), (3, 1), (31, 1), (467, 1), (16447, 1), (64881703735777, 1)]) (by decide) (by decide +kernel) ⟨pr_2, pr_3, pr_31, pr_467, pr_16447, pr_64881703735777, trivial⟩ (by decide +kernel)

theorem pr_281 : Pr 281 := small_pr (by decide +kernel)

theorem pr_3373 : Pr 3373 :=
  lucas_pr (k := 4) (N := 3373) (a := 5) (L := [(2, 2), (3, 1), (281, 1)]) (by decide) (by decide +kernel) ⟨pr_2, pr_3, pr_281, trivial⟩ (by decide +kernel)

theorem pr_151 : Pr 151 := small_pr (by decide +kernel)

theorem pr_8101 : Pr 8101 :=
  lucas_pr (k := 4) (N := 8101) (a := 6) (L := [(2, 2), (3, 4), (5, 2)]) (by decide) (by decide +kernel) ⟨pr_2, pr_3, pr_5, trivial⟩ (by decide +kernel)

theorem pr_51376543 : Pr 51376543 :=
  lucas_pr (k := 4) (N := 51376543) (a := 3) (L := [(2, 1), (3, 1), (7, 1), (151, 1), (8101, 1)]) (by decide) (by decide +kernel) ⟨pr_2, pr_3, pr_7, pr_151, pr_8101, trivial⟩ (by decide +kernel)

theorem pr_43670061551 : Pr 43670061551 :=
  lucas_pr (k := 4) (N := 43670061551) (a := 7) (L := [(2, 1), (5, 2), (17, 1), (51376543, 1)]) (by decide) (by decide +kernel) ⟨pr_2, pr_5, pr_17, pr_51376543, trivial⟩ (by decide +kernel)

theorem pr_1151 : Pr 1151 :=
  lucas_pr (k := 4) (N := 1151) (a := 17) (L := [(2, 1), (5, 2), (23, 1)]) (by decide) (by decide +kernel) ⟨pr_2, pr_5, pr_23, trivial⟩ (by decide +kernel)

theorem pr_755057 : Pr 755057 :=
  lucas_pr (k := 4) (N := 755057) (a := 3) (L := [(2, 4), (41, 1), (1151, 1)]) (by decide) (by decide +kernel) ⟨pr_2, pr_41, pr_1151, trivial⟩ (by decide +kernel)

theorem pr_1327 : Pr 1327 :=
  lucas_pr (k := 4) (N := 1327) (a := 3) (L := [(2, 1), (3, 1), (13, 1), (17, 1)]) (by decide) (by decide +kernel) ⟨pr_2, pr_3, pr_13, pr_17, trivial⟩ (by decide +kernel)

theorem pr_421987 : Pr 421987 :=
  lucas_pr (k := 4) (N := 421987) (a := 2) (L := [(2, 1), (3, 1), (53, 1), (1327, 1)]) (by decide) (by decide +kernel) ⟨pr_2, pr_3, pr_53, pr_1327, trivial⟩ (by decide +kernel)

theorem pr_13090036741 : Pr 13090036741 :=
  lucas_pr (k := 4) (N := 13090036741) (a := 10) (L := [(2, 2), (3, 1), (5, 1), (11, 1), (47, 1), (421987, 1)]) (by decide) (by decide +kernel) ⟨pr_2, pr_3, pr_5, pr_11, pr_47, pr_421987, trivial⟩ (by decide +kernel)

theorem pr_3819663927398918131021 : Pr 3819663927398918131021 :=
  lucas_pr (k := 4) (N := 3819663927398918131021) (a := 6) (L := [(2, 2), (3, 2), (5, 1), (19, 1), (113, 1), (755057, 1), (13090036741, 1)]) (by decide) (by decide +kernel) ⟨pr_2, pr_3, pr_5, pr_19, pr_113, pr_755057, pr_13090036741, trivial⟩ (by decide +kernel)

theorem pr_1125266252156850182658904441386709967 : Pr 1125266252156850182658904441386709967 :=
  lucas_pr (k := 4) (N := 1125266252156850182658904441386709967) (a := 5) (L := [(2, 1), (3373, 1), (43670061551, 1), (3819663927398918131021, 1)]) (by decide) (by decide +kernel) ⟨pr_2, pr_3373, pr_43670061551, pr_3819663927398918131021, trivial⟩ (by decide +kernel)

theorem pr_15778400344354997994418419698270088123916926905054652752758194827714659 : Pr 15778400344354997994418419698270088123916926905054652752758194827714659 :=
  lucas_pr (k := 4) (N := 15778400344354997994418419698270088123916926905054652752758194827714659) (a := 2) (L := [(2, 1), (3, 1), (53, 1), (475709467, 1), (92691255082156974996979, 1), (1125266252156850182658904441386709967, 1)]) (by decide) (by decide +kernel) ⟨pr_2, pr_3, pr_53, pr_475709467, pr_92691255082156974996979, pr_1125266252156850182658904441386709967, trivial⟩ (by decide +kernel)

/-- BlsP is prime: Fermat's law. -/
theorem fermatBlsP : Ferm 4002409555221667393417789825735904156556882819939007885332058136124031650490837864442687629129015664037894272559787 :=
  lucas (k := 6) (N := 4002409555221667393417789825735904156556882819939007885332058136124031650490837864442687629129015664037894272559787) (a := 2) (L := [(2, 1), (3, 2), (11, 1), (23, 1), (47, 1), (10177, 1), (859267, 1), (52437899, 1), (2584487767265781317813, 1), (15778400344354997994418419698270088123916926905054652752758194827714659, 1)]) (by decide) (by decide +kernel) ⟨pr_2, pr_3, pr_11, pr_23, pr_47, pr_10177, pr_859267, pr_52437899, pr_2584487767265781317813, pr_15778400344354997994418419698270088123916926905054652752758194827714659, trivial⟩ (by decide +kernel)

theorem pr_523 : Pr 523 := small_pr (by decide +kernel)

theorem pr_20921 : Pr 20921 :=
  lucas_pr (k := 4) (N := 20921) (a := 3) (L := [(2, 3), (5, 1), (523, 1)]) (by decide) (by decide +kernel) ⟨pr_2, pr_5, pr_523, trivial⟩ (by decide +kernel)

theorem pr_125527 : Pr 125527 :=
  lucas_pr (k := 4) (N := 125527) (a := 5) (L := [(2, 1), (3, 1), (20921, 1)]) (by decide) (by decide +kernel) ⟨pr_2, pr_3, pr_20921, trivial⟩ (by decide +kernel)

theorem pr_1607 : Pr 1607 :=
  lucas_pr (k := 4) (N := 1607) (a := 5) (L := [(2, 1), (11, 1), (73, 1)]) (by decide) (by decide +kernel) ⟨pr_2, pr_11, pr_73, trivial⟩ (by decide +kernel)

theorem pr_906349 : Pr 906349 :=
  lucas_pr (k := 4) (N := 906349) (a := 2) (L := [(2, 2), (3, 1), (47, 1), (1607, 1)]) (by decide) (by decide +kernel) ⟨pr_2, pr_3, pr_47, pr_1607, trivial⟩ (by decide +kernel)

theorem pr_79 : Pr 79 := small_pr (by decide +kernel)

theorem pr_2508409 : Pr 2508409 :=
  lucas_pr (k := 4) (N := 2508409) (a := 11) (L := [(2, 3), (3, 4), (7, 2), (79, 1)]) (by decide) (by decide +kernel) ⟨pr_2, pr_3, pr_7, pr_79, trivial⟩ (by decide +kernel)

theorem pr_18329 : Pr 18329 :=
  lucas_pr (k := 4) (N := 18329) (a := 3) (L := [(2, 3), (29, 1), (79, 1)]) (by decide) (by decide +kernel) ⟨pr_2, pr_29, pr_79, trivial⟩ (by decide +kernel)

theorem pr_2529403 : Pr 2529403 :=
  lucas_pr (k := 4) (N := 2529403) (a := 2) (L := [(2, 1), (3, 1), (23, 1), (18329, 1)]) (by decide) (by decide +kernel) ⟨pr_2, pr_3, pr_23, pr_18329, trivial⟩ (by decide +kernel)

theorem pr_359 : Pr 359 := small_pr (by decide +kernel)

theorem pr_110573 : Pr 110573 :=
  lucas_pr (k := 4) (N := 110573) (a := 3) (L := [(2, 2), (7, 1), (11, 1), (359, 1)]) (by decide) (by decide +kernel) ⟨pr_2, pr_7, pr_11, pr_359, trivial⟩ (by decide +kernel)

theorem pr_2653753 : Pr 2653753 :=
  lucas_pr (k := 4) (N := 2653753) (a := 5) (L := [(2, 3), (3, 1), (110573, 1)]) (by decide) (by decide +kernel) ⟨pr_2, pr_3, pr_110573, trivial⟩ (by decide +kernel)

theorem pr_63690073 : Pr 63690073 :=
  lucas_pr (k := 4) (N := 63690073) (a := 7) (L := [(2, 3), (3, 1), (2653753, 1)]) (by decide) (by decide +kernel) ⟨pr_2, pr_3, pr_2653753, trivial⟩ (by decide +kernel)

theorem pr_254760293 : Pr 254760293 :=
  lucas_pr (k := 4) (N := 254760293) (a := 2) (L := [(2, 2), (63690073, 1)]) (by decide) (by decide +kernel) ⟨pr_2, pr_63690073, trivial⟩ (by decide +kernel)

/-- BlsR is prime: Fermat's law. -/
theorem fermatBlsR : Ferm 52435875175126190479447740508185965837690552500527637822603658699938581184513 :=
  lucas (k := 4) (N := 52435875175126190479447740508185965837690552500527637822603658699938581184513) (a := 7) (L := [(2, 32), (3, 1), (11, 1), (19, 1), (10177, 1), (125527, 1), (859267, 1), (906349, 2), (2508409, 1), (2529403, 1), (52437899, 1), (254760293, 2)]) (by decide) (by decide +kernel) ⟨pr_2, pr_3, pr_11, pr_19, pr_10177, pr_125527, pr_859267, pr_906349, pr_2508409, pr_2529403, pr_52437899, pr_254760293, trivial⟩ (by decide +kernel)

end Go.Proofs.Ytiekipkmfopdoaa
